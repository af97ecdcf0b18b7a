/- Contracts: texts cut at blanks, numbers read from their parts (the model's side). -/
import Derived.Test.YtljpggeogiabgaaDoorTxtA
import Derived.Test.YtljpggeogiabgaaDoorPtZ
import Derived.Test.YtljpggeogiabgaaDoorLstG
import Derived.Laws.OwnMore
namespace Go.Proofs.YtljpggeogiabgaaDoor
open Go.ChangeShapes Go.WideShapes Go.ChangeAt Go.RowKit Go.Flo Go.Mem
set_option linter.unusedSimpArgs false
set_option linter.unusedVariables false
theorem infoS : (Tryd.prog.info? 9).map (fun i => (i.zero, i.size, i.bytes)) = some (some (.string ByteArray.empty), 1, 16) := by kernel_rfl
theorem infoF32 : (Tryd.prog.info? 22).map (fun i => (i.zero, i.size, i.bytes)) = some (some (.float .f32 0), 1, 4) := by kernel_rfl
def rS (bs : List ByteArray) : List (List Value) := bs.map fun b => [.string b]
theorem rS_len (bs : List ByteArray) : (rS bs).length = bs.length := by simp [rS]
theorem rS_get {bs : List ByteArray} {i : Nat} {b : ByteArray} (h : bs[i]? = some b) : (rS bs)[i]? = some [.string b] := by simp [rS, h]
theorem rls_of_owns {w : World} {base E n : Nat} {v : Value} {xs : List Value} (h : w.ownsRow base E 1 v n xs) : Rls 1 w v (xs.map fun x => [x]) := by
  obtain ⟨hl, h⟩ := h
  rw [Nat.mul_one] at hl
  rcases h with ⟨rfl, rfl⟩ | ⟨g, cap, cur, rfl, hb, hg, h1, h2, h3, h4⟩
  · have : xs = [] := List.eq_nil_of_length_eq_zero hl
    subst this
    exact ⟨none, 0, rfl, fun j r hr => by simp at hr⟩
  · refine ⟨some ⟨g, 0, none⟩, cap, by simp [hl], fun j r hr => ⟨⟨g, 0, none⟩, rfl, ?_, fun k x hx => ?_⟩⟩
    · exact (Array.getElem?_eq_some_iff.1 hg).1
    · rw [List.getElem?_map, Option.map_eq_some_iff] at hr
      obtain ⟨y, hy, rfl⟩ := hr
      cases k with
      | succ k => simp at hx
      | zero =>
        simp at hx; subst hx
        rw [Addr.add_mid, Addr.add_mid]
        have hj : j < n := by rw [← hl]; exact (List.getElem?_eq_some_iff.1 hy).1
        rw [← h4, Nat.mul_one, List.getElem?_take_of_lt hj] at hy
        show World.cell? w ⟨g, _, none⟩ = _
        simp only [Nat.mul_one, Nat.add_zero, Nat.zero_add]
        simp [World.cell?, hg]
        simpa using hy
theorem cutB (s : ByteArray) (a b : Nat) : (s.extract a b).data.toList = (s.data.toList.drop a).take (b - a) := by rw [Lib.extract_data]
def mkB (l : List UInt8) : ByteArray := ⟨l.toArray⟩
theorem segsB_eq (s : ByteArray) : segsB s = (segs s.data.toList).map mkB := rfl
def midS (s : ByteArray) (a i : Nat) : List UInt8 := (s.data.toList.drop a).take (i - a)
theorem mid_B (s : ByteArray) (a i : Nat) : s.extract a i = mkB (midS s a i) := ofData (cutB s a i)
def leftS (s : ByteArray) (a i : Nat) : List ByteArray := (preS (midS s a i) (segs (s.data.toList.drop i))).map mkB
theorem left_0 (s : ByteArray) : leftS s 0 0 = segsB s := by simp [leftS, midS, preS_nil, segsB_eq]
theorem left_end {s : ByteArray} {a i : Nat} (h : i = s.size) : leftS s a i = [s.extract a i] := by
  subst h
  have : s.data.toList.drop s.size = [] := by rw [List.drop_eq_nil_iff]; exact Nat.le_refl _
  rw [leftS, this, preS_end, mid_B]; rfl
theorem byte_at {s : ByteArray} {i : Nat} (hi : i < s.size) : ∃ b, s[i]? = some b ∧ s.data.toList.drop i = b :: s.data.toList.drop (i + 1) ∧ s.data.toList[i]? = some b := by
  have h : i < s.data.toList.length := hi
  refine ⟨s.data.toList[i], ?_, List.drop_eq_getElem_cons h, List.getElem?_eq_getElem h⟩
  rw [getElem?_pos s i hi]; rfl
theorem left_blank {s : ByteArray} {a i : Nat} (h : s.data.toList.drop i = 32 :: s.data.toList.drop (i + 1)) : leftS s a i = s.extract a i :: leftS s (i + 1) (i + 1) := by
  unfold leftS
  rw [h, preS_blank, mid_B]; simp [midS]
theorem left_other {s : ByteArray} {a i : Nat} {b : UInt8} (hb : b ≠ 32) (ha : a ≤ i) (h : s.data.toList.drop i = b :: s.data.toList.drop (i + 1)) : leftS s a i = leftS s a (i + 1) := by
  unfold leftS
  rw [h, preS_other _ _ _ hb]
  have : midS s a i ++ [b] = midS s a (i + 1) := by
    unfold midS
    have e : (s.data.toList.drop a)[i - a]? = some b := by
      rw [List.getElem?_drop, show a + (i - a) = i by omega]
      have : (s.data.toList.drop i)[0]? = some b := by rw [h]; rfl
      rwa [List.getElem?_drop, Nat.add_zero] at this
    rw [show i + 1 - a = (i - a) + 1 by omega, List.take_add_one, e]; rfl
  rw [this]
theorem byte32 {b : UInt8} (h : ((b.toNat : Nat) : Int) = 32) : b = 32 := by
  have : b.toNat = 32 := by omega
  exact UInt8.toNat_inj.1 this
theorem oneC (w : World) (x : Value) (t : TypeId) : ∀ (j : Nat) (u : Value), [x][j]? = some u → (w.alloc (.cells #[x] t)).cell? ((⟨w.heap.size, 0, none⟩ : Addr).add j) = some u := by
  intro j u h
  cases j with
  | succ j => simp at h
  | zero =>
    simp at h; subst h
    rw [Addr.add_mid]
    exact World.cell?_alloc_at _ _ _ _ rfl
theorem below_app {W wr w1 : World} {v : Value} {base e n : Nat} {xs : List Value} {o : Obj} (hB : Below W.heap.size W wr) (hown : wr.ownsRow W.heap.size e n v (xs.length) xs ∨ ∃ m, wr.ownsRow W.heap.size e n v m xs) (hg : (wr.alloc o).grownBy w1 v.ownBlock) : Below W.heap.size W w1 := by
  refine (below_alloc hB).grown hg (Nat.le_trans hB.size (by simp)) (fun k hk => ?_)
  rcases hown with h | ⟨m, h⟩
  · exact (h.lt k hk).1
  · exact (h.lt k hk).1
theorem s_one (b : ByteArray) : ∀ u ∈ [Value.string b], u.oneCell' = true := by intro u hu; simp at hu; subst hu; rfl
theorem f_one (k : FloatKind) (b : Nat) : ∀ u ∈ [Value.float k b], u.oneCell' = true := by intro u hu; simp at hu; subst hu; rfl
/-- the capacity is not less than the length -/
def CapOk (v : Value) : Prop := ∀ a n c, v = .slice a n c → n ≤ c
theorem capOk_of {w : World} {base E n : Nat} {v : Value} {xs : List Value} (h : w.ownsRow base E 1 v n xs) : CapOk v := by
  obtain ⟨_, h⟩ := h
  intro a m c e
  rcases h with ⟨rfl, rfl⟩ | ⟨g, cap, cur, rfl, _, _, h1, _⟩
  · cases e; exact Nat.le_refl _
  · cases e; exact h1
--## Split 12
theorem out_step {s : ByteArray} {out : List ByteArray} {a i : Nat} (heq : segsB s = out ++ leftS s a i) (h : s.data.toList.drop i = 32 :: s.data.toList.drop (i + 1)) : segsB s = (out ++ [s.extract a i]) ++ leftS s (i + 1) (i + 1) := by
  rw [heq, left_blank h]; simp
theorem getS {s : ByteArray} {i : Nat} (hi : i < s.size) : s.data.toList.drop i = s[i] :: s.data.toList.drop (i + 1) := by
  obtain ⟨b, h1, h2, _⟩ := byte_at hi
  rw [getElem?_pos s i hi] at h1
  rw [h2, Option.some.inj h1]
theorem map_snoc (out : List ByteArray) (x : ByteArray) : List.map Value.string out ++ [Value.string x] = List.map Value.string (out ++ [x]) := by simp
set_option maxRecDepth 20000 in
set_option maxHeartbeats 1000000 in
theorem SplitS' (s : ByteArray) (w : World) (hs : s.size ≤ 1048576) :
    Calls Tryd.prog 12 #[.string s, .int .u8 32] w fun e w' => ∃ v, e = .returned v ∧ Rls 1 w' v (rS (segsB s)) ∧ CapOk v ∧ Below w.heap.size w w' := by
  obtain ⟨i0, hi, hz0, hz1, hz2⟩ := info_parts infoS
  go_enter Tryd.func12, Tryd.ntmps12
  go_wp2_with fail
  go_loopg [5, 6, 7] s.size (fun k s5 s6 s7 wr => ∃ (i a : Nat) (out : List ByteArray), s7 = .int .i64 i ∧ s6 = .int .i64 a ∧ i + k = s.size ∧ a ≤ i ∧ out.length ≤ i ∧ wr.ownsRow w.heap.size 9 1 s5 out.length (out.map Value.string) ∧ segsB s = out ++ leftS s a i ∧ Below w.heap.size w wr)
  · exact ⟨0, 0, [], rfl, rfl, by omega, Nat.le_refl _, by simp, World.ownsRow_made w #[] 0 (Nat.le_refl _) (by unfold maxLen; omega) rfl, by rw [left_0]; rfl, below_alloc (Below.refl _ _)⟩
  · obtain ⟨i, a, out, rfl, rfl, hik, ha, ho, hown, heq, HB⟩ := hrel
    have B : Aside (segsB s = out ++ leftS s a i ∧ i + gk = s.size ∧ Below w.heap.size w wr) := ⟨heq, hik, HB⟩
    have hsz := HB.size
    clear heq hik HB
    by_cases hi : i < s.size
    · have f0 : (0 : Int) ≤ (a : Int) := Int.natCast_nonneg _
      have f1 : (a : Int) ≤ (i : Int) := by omega
      have f2 : (i : Int) ≤ (s.size : Int) := by omega
      go_wp2_with (at_builtin; refine wpList_append_own _ rfl _ _ 39 rfl w.heap.size 9 i0 (.string ByteArray.empty) 1 16 Tryd.underlying39 ‹_› hz0 hz1 hz2 rfl (by decide) _ _ _ rfl (hown.alloc _) ⟨wr.heap.size, 0, none⟩ 1 1 [.string (s.extract a i)] rfl rfl (oneC _ _ _) (s_one _) (by unfold maxLen; omega) (by omega) (by simp; omega) ?_; intro v' w1 hown1 hg1 _)
      all_goals obtain ⟨heq, hik, HB⟩ := B.out
      · have hd : s[i] = 32 := byte32 (by simp_all)
        have hst := out_step heq (by rw [getS hi, hd])
        go_roundg (gk - 1)
        · refine ⟨i + 1, i + 1, out ++ [s.extract a i], ?_, ?_, by omega, by omega, by simp; omega, by rw [List.length_append, ← map_snoc]; exact hown1, hst, below_app (base := 0) HB (.inr ⟨_, hown⟩) hg1⟩
          · congr 1
          · congr 1
        · omega
      · have hd : s[i] ≠ 32 := fun e => by simp_all
        have hst := left_other hd ha (getS hi)
        go_roundg (gk - 1)
        · refine ⟨i + 1, a, out, ?_, rfl, by omega, by omega, by omega, hown, by rw [← hst]; exact heq, HB⟩
          congr 1
        · omega
    · have f0 : (0 : Int) ≤ (a : Int) := Int.natCast_nonneg _
      have f1 : (a : Int) ≤ (s.size : Int) := by obtain ⟨_, hik, _⟩ := B.out; omega
      have hie : i = s.size := by obtain ⟨_, hik, _⟩ := B.out; omega
      go_wp2_with (at_builtin; refine wpList_append_own _ rfl _ _ 39 rfl w.heap.size 9 i0 (.string ByteArray.empty) 1 16 Tryd.underlying39 ‹_› hz0 hz1 hz2 rfl (by decide) _ _ _ rfl (hown.alloc _) ⟨wr.heap.size, 0, none⟩ 1 1 [.string (s.extract a s.size)] rfl rfl (oneC _ _ _) (s_one _) (by unfold maxLen; omega) (by omega) (by simp; omega) ?_; intro v' w1 hown1 hg1 _)
      all_goals obtain ⟨heq, hik, HB⟩ := B.out
      all_goals simp [bodyPost, results, Tryd.results12, go_sem]
      refine ⟨?_, capOk_of hown1, below_app (base := 0) HB (.inr ⟨_, hown⟩) hg1⟩
      have h := rls_of_owns hown1
      rw [left_end hie, hie] at heq
      rw [heq]
      simpa [rS, Function.comp_def] using h
theorem SplitS (s : ByteArray) (w : World) (hs : s.size ≤ 1048576) :
    Calls Tryd.prog 12 #[.string s, .int .u8 32] w fun e w' => ∃ v, e = .returned v ∧ Rls 1 w' v (rS (segsB s)) ∧ Below w.heap.size w w' :=
  (SplitS' s w hs).mono fun e w' ⟨v, a, b, _, d⟩ => ⟨v, a, b, d⟩
end Go.Proofs.YtljpggeogiabgaaDoor
