/- Contracts: the text of a sheet (model). -/
import Derived.Test.YteckjpdfecgljaaStxA
import Derived.WalkKit
import Derived.LoopN
import Derived.Deep.LoopGhost
import Derived.Laws.MakeOwn
namespace Go.Proofs.Yteckjpdfecgljaa
--## d
open Go.ChangeShapes Go.WideShapes Go.ChangeAt Go.RowKit Go.Flo Go.Mem
set_option linter.unusedSimpArgs false
set_option linter.unusedVariables false
set_option maxRecDepth 20000
--## d
theorem wpList_at8 {ops : Array Oper} {rest : List Oper} {o : Oper} {a : Act} {W : World} {Q : Exit → Act → World → Prop} (hgd : o.guard = none) {t : TypeId} {X Y : Operand} (ho : o.op = .index t X Y) (ht : Try.prog.underlying t = some .string) {s : ByteArray} (hX : a.eval X = .string s) {k : IntKind} {i : Nat} (hY : a.eval Y = .int k i) {b : UInt8} (hs : s[i]? = some b)
    (hK : wpList Try.prog ops Q rest (a.put o.dst (.int .u8 ((b.toNat : Nat) : Int))) W) : wpList Try.prog ops Q (o :: rest) a W := by
  refine wpList_run hgd ?_ hK
  have h0 : (0 : Int) ≤ (i : Int) := Int.natCast_nonneg i
  unfold execOp
  simp [ho, hX, hY, Instr.index, asIntOf, Sem.run_bind, run_underlying ht, hs, h0]
--## d
theorem infoU : (Try.prog.info? 5).map (fun i => (i.zero, i.size, i.bytes)) = some (some (.int .u8 0), 1, 1) := by kernel_rfl
--## d
theorem one8 (w : World) (x : Value) (t : TypeId) : ∀ (j : Nat) (u : Value), [x][j]? = some u → (w.alloc (.cells #[x] t)).cell? ((⟨w.heap.size, 0, none⟩ : Addr).add j) = some u := by
  intro j u h
  cases j with
  | succ j => simp at h
  | zero =>
    simp at h; subst h
    rw [Addr.add_mid]
    exact World.cell?_alloc_at _ _ _ _ rfl
--## d
theorem below_app8 {W wr w1 : World} {v : Value} {e m : Nat} {xs : List Value} {o : Obj} (hB : Below W.heap.size W wr) (hown : wr.ownsRow W.heap.size e 1 v m xs) (hg : (wr.alloc o).grownBy w1 v.ownBlock) : Below W.heap.size W w1 :=
  (below_alloc hB).grown hg (Nat.le_trans hB.size (by simp)) (fun k hk => (hown.lt k hk).1)
--## d
theorem u8_one (c : Int) : ∀ u ∈ [Value.int .u8 c], u.oneCell' = true := by intro u hu; simp at hu; subst hu; rfl
--## d
def bC (l : List UInt8) : List Value := l.map fun x => Value.int .u8 ((x.toNat : Nat) : Int)
--## d
theorem bC_snoc (l : List UInt8) (b : UInt8) : bC l ++ [Value.int .u8 ((b.toNat : Nat) : Int)] = bC (l ++ [b]) := by simp [bC]
--## d
theorem rls8 {w : World} {base e n : Nat} {v : Value} {xs : List UInt8} (h : w.ownsRow base e 1 v (n + 1) (bC xs)) : ∃ b c, v = .slice (some ⟨b, 0, none⟩) (n + 1) c ∧ ∀ (j : Nat) (u : Value), (bC xs)[j]? = some u → w.cell? (Addr.add ⟨b, 0, none⟩ j) = some u := by
  obtain ⟨hl, h⟩ := h
  rw [Nat.mul_one] at hl
  rcases h with ⟨rfl, h0⟩ | ⟨g, cap, cur, rfl, hb, hg, h1, h2, h3, h4⟩
  · omega
  · refine ⟨g, cap, rfl, fun j u hu => ?_⟩
    have hj : j < n + 1 := by rw [← hl]; exact (List.getElem?_eq_some_iff.1 hu).1
    rw [← h4, Nat.mul_one, List.getElem?_take_of_lt hj] at hu
    rw [Addr.add_mid]
    simp [World.cell?, hg]
    simpa using hu
--## d
set_option maxHeartbeats 4000000 in
theorem l06TextS (g : Nat) (zs : List Int) (w : World) (hs : Sh zs) (hg : ∀ W, Below w.heap.size w W → ∀ (y : Nat) (z : Int), zs[y]? = some z → W.cell? ⟨g, y, none⟩ = some (.int .u64 z)) :
    Calls Try.prog 7 #[.pointer (some ⟨g, 0, none⟩)] w (Gives (fun r => r = .string ⟨(txt zs 64).toArray⟩) w) := by
  have A : Aside (Sh zs ∧ ∀ W, Below w.heap.size w W → ∀ (y : Nat) (z : Int), zs[y]? = some z → W.cell? ⟨g, y, none⟩ = some (.int .u64 z)) := ⟨hs, hg⟩
  clear hs hg
  obtain ⟨i0, hi0, hz0, hz1, hz2⟩ := info_parts infoU
  go_enter Try.func7, Try.ntmps7
  go_wp2_with fail
  go_loopg [4, 5] 64 (fun k s4 s5 wr => ∃ (y : Nat), s5 = .int .i64 y ∧ y + k = 64 ∧ wr.ownsRow w.heap.size 5 1 s4 (17 * y) (bC (txt zs y)) ∧ Below w.heap.size w wr)
  · exact ⟨0, rfl, by omega, World.ownsRow_made w #[] 0 (Nat.le_refl _) (by unfold maxLen; omega) rfl, below_alloc (Below.refl _ _)⟩
  · obtain ⟨y, rfl, hyk, hown, HB⟩ := hrel
    have B : Aside (y + gk = 64 ∧ Below w.heap.size w wr) := ⟨hyk, HB⟩
    have hsz := HB.size
    by_cases hy : y < 64
    · obtain ⟨z, hz⟩ : ∃ z, zs[y]? = some z := ⟨zs[y]'(by rw [A.out.1.1]; exact hy), List.getElem?_eq_getElem _⟩
      have hy' : (y : Int) < 64 := by omega
      have hy0 : (0 : Int) ≤ (y : Int) := Int.natCast_nonneg _
      have HZ : Aside (zs[y]? = some z ∧ 0 ≤ z ∧ z < 18446744073709551616) := ⟨hz, A.out.1.2 z (List.mem_of_getElem? hz)⟩
      have HO := Lib.hid hown
      clear hz HB hyk hown hsz
      go_wp2_with fail
      go_loopg [4, 6] 16 (fun k t4 s6 wq => ∃ (i : Nat) (kk : Int), s6 = .int .i64 kk ∧ kk = 60 - 4 * (i : Int) ∧ i + k = 16 ∧ wq.ownsRow w.heap.size 5 1 t4 (17 * y + i) (bC (txt zs y ++ hexR z i)) ∧ Below w.heap.size w wq)
      · exact ⟨0, 60, rfl, rfl, by omega, by rw [show hexR z 0 = [] from rfl, List.append_nil]; exact HO.out, B.out.2⟩
      · obtain ⟨i, kk, rfl, hkk, hik, hown, HB⟩ := hrel
        have D : Aside (kk = 60 - 4 * (i : Int) ∧ i + gk = 16 ∧ Below w.heap.size w wr) := ⟨hkk, hik, HB⟩
        have hsz := HB.size
        by_cases hi : i < 16
        · obtain ⟨K, rfl⟩ : ∃ K : Nat, kk = (K : Int) := ⟨kk.toNat, by omega⟩
          have hK : K = 4 * (15 - i) := by omega
          have hK0 : (0 : Int) ≤ (K : Int) := Int.natCast_nonneg _
          have hK1 : (K : Int) ≤ 60 := by omega
          have hcell := A.out.2 wr HB y z HZ.out.1
          have hw : IntKind.u64.wrap (K : Int) = (K : Int) := by rw [IntKind.wrap_u64]; omega
          have hsh : bits BinOp.and IntKind.u64 (z / 2 ^ K) 15 = ((z.toNat / 2 ^ K % 16 : Nat) : Int) := and15z z K HZ.out.2
          have hlt := dg_lt z K
          have HD : Aside (dg z K = Sx.digitB (z.toNat / 2 ^ K % 16)) := rfl
          have HK : Aside (K = 4 * (15 - i)) := hK
          generalize z.toNat / 2 ^ K % 16 = d at *
          have hdg := hexS_get d hlt
          clear hkk hK HB hik
          go_wp2_with (first | (refine wpList_at8 rfl rfl (by kernel_rfl) rfl rfl hdg ?_) | (at_builtin; refine wpList_append_own _ rfl _ _ 31 rfl w.heap.size 5 i0 (.int .u8 0) 1 1 Try.underlying31 ‹_› hz0 hz1 hz2 rfl (by decide) _ _ _ rfl (hown.alloc _) ⟨wr.heap.size, 0, none⟩ 1 1 [.int .u8 ((Sx.digitB d).toNat : Int)] rfl rfl (one8 _ _ _) (u8_one _) (by unfold maxLen; omega) (by omega) (by simp; omega) ?_; intro v' w1 hown1 hg1 _))
          obtain ⟨hkk, hik, HB⟩ := D.out
          have hKn := HK.out
          go_roundg (gk - 1)
          · refine ⟨i + 1, (K : Int) - 4, rfl, by omega, by omega, ?_, below_app8 HB hown hg1⟩
            rw [bC_snoc, ← HD.out, hKn, List.append_assoc, ← hexR_succ] at hown1
            exact hown1
          · omega
        · have hi16 : i = 16 := by omega
          have hkn : ¬ ((0 : Int) ≤ kk) := by omega
          have hkn2 : kk < 0 := by omega
          subst hi16
          have HB2 := Lib.hid HB
          clear hkk hik HB
          go_wp2_with (at_builtin; refine wpList_append_own _ rfl _ _ 31 rfl w.heap.size 5 i0 (.int .u8 0) 1 1 Try.underlying31 ‹_› hz0 hz1 hz2 rfl (by decide) _ _ _ rfl (hown.alloc _) ⟨wr.heap.size, 0, none⟩ 1 1 [.int .u8 10] rfl rfl (one8 _ _ _) (u8_one _) (by unfold maxLen; omega) (by omega) (by simp; omega) ?_; intro v' w1 hown1 hg1 _)
          obtain ⟨hyk, _⟩ := B.out
          have hrow : bC (txt zs y ++ hexR z 16) ++ [Value.int .u8 10] = bC (txt zs (y + 1)) := by
            rw [txt_succ HZ.out.1]
            simp [bC, rowT]
          go_roundg (63 - y)
          · refine ⟨y + 1, ?_, by omega, ?_, below_app8 HB2.out hown hg1⟩
            · first | (congr 1; done) | (congr 1; unfold wrap64; omega)
            · rw [hrow] at hown1
              rw [show 17 * (y + 1) = 17 * y + 16 + 1 by omega]
              exact hown1
          · omega
    · have hy' : ¬ ((y : Int) < 64) := by omega
      have hye : y = 64 := by omega
      subst hye
      have HB2 := Lib.hid HB
      have HO := Lib.hid hown
      have hr := rls8 hown
      obtain ⟨b, c, hv, hr⟩ := hr
      subst hv
      clear HB hyk hown
      go_wp2_with fail
      rw [run_bytes (n := 1088) (e := 5) (txt zs 64) (by rw [txt_len 64 (by rw [A.out.1.1]; exact Nat.le_refl _)]) (by kernel_rfl) (by kernel_rfl) (by kernel_rfl) hr]
      simp only [Result.andThen_ok]
      go_wp2_with fail
      simp [bodyPost, results, Try.results7, go_sem]
      exact ⟨_, rfl, rfl, HB2.out⟩
--## d
end Go.Proofs.Yteckjpdfecgljaa
