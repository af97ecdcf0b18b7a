/- Contracts: cameras read from their texts (the program's side). -/
import Derived.Test.YtnjckcampgankaaDoorTxtE
import Derived.Test.YtnjckcampgankaaDoorTxtF
namespace Go.Proofs.YtnjckcampgankaaDoor
open Go.ChangeShapes Go.WideShapes Go.ChangeAt Go.RowKit Go.Flo Go.Mem
set_option linter.unusedSimpArgs false
set_option linter.unusedVariables false
--## ReadCameraI 11 25
set_option maxRecDepth 20000 in
set_option maxHeartbeats 1000000 in
theorem ReadCameraI3 (s : ByteArray) (w : World) {m : Int} (h5 : 5 < w.heap.size) (hm : w.cell? ⟨5, 0, none⟩ = some (.int .i64 m)) (hs : s.size ≤ 1048576) (h3 : (segsB s).length ≠ 12) : Calls Tryd.prog 11 #[.string s] w (Gives (fun v => v = .tuple #[zero11, .int .i64 5]) w) := by
  have HL : Aside (s.size ≤ 1048576) := hs
  have HM : Aside (∀ o1 o2, ((w.alloc o1).alloc o2).cell? ⟨5, 0, none⟩ = some (.int .i64 m)) := fun o1 o2 => ((below_alloc (below_alloc (Below.refl _ _))).cell (p := ⟨5, 0, none⟩) h5).trans hm
  have hk5 : w.heap.size < w.heap.size + 1 + 1 := by omega
  have hk6 : ¬ w.heap.size = w.heap.size + 1 := by omega
  have hk7 : w.heap.size + 1 < w.heap.size + 1 + 1 := by omega
  have hl := cutN_len (n := 13) (by decide) s
  have hne : (((cutN 13 s).length : Int) == 12) = false := by simp; omega
  have hne' : (((cutN 13 s).length : Int) != 12) = true := by simp; omega
  clear hl h3 hs hm
  go_enter Tryd.func11, Tryd.ntmps11
  go_wp2_with (go_at_call 24; refine (SplitNI 13 (by decide) s _ (m := m) (HM.out _ _) HL.out (by decide) (by decide)).mono ?_; rintro e w' ⟨g, N, rfl, _, _, _, hb⟩; obtain ⟨hc1, hf1⟩ := bcell hb; have hz1 : w.heap.size < w'.heap.size := (by have := hb.size; (try simp at this); omega); (try simp at hc1 hf1); have HB1 : Aside _ := hb; clear hb)
  all_goals simp [bodyPost, results, Tryd.results11, go_sem, *]
  refine ⟨_, rfl, rfl, ?_⟩
  repeat refine below_set ?_ (Nat.le_refl _)
  exact below_step HB1.out (below_alloc (below_alloc (Below.refl _ _)))
set_option maxRecDepth 20000 in
set_option maxHeartbeats 1000000 in
theorem ReadCameraI1 (s : ByteArray) (w : World) {m : Int} (h5 : 5 < w.heap.size) (hm : w.cell? ⟨5, 0, none⟩ = some (.int .i64 m)) (hs : s.size ≤ 1048576) {w0 : ByteArray} {ws : List ByteArray} (hw : segsB s = w0 :: ws) (hl : ws.length = 11) (h0 : (w0.toList == [99, 97, 109, 101, 114, 97]) = false) : Calls Tryd.prog 11 #[.string s] w (Gives (fun v => v = .tuple #[zero11, .int .i64 5]) w) := by
  have HL : Aside (s.size ≤ 1048576) := hs
  have HM : Aside (∀ o1 o2, ((w.alloc o1).alloc o2).cell? ⟨5, 0, none⟩ = some (.int .i64 m)) := fun o1 o2 => ((below_alloc (below_alloc (Below.refl _ _))).cell (p := ⟨5, 0, none⟩) h5).trans hm
  have hk5 : w.heap.size < w.heap.size + 1 + 1 := by omega
  have hk6 : ¬ w.heap.size = w.heap.size + 1 := by omega
  have hk7 : w.heap.size + 1 < w.heap.size + 1 + 1 := by omega
  have hcut : cutN 13 s = w0 :: ws := by rw [cutN_eq (by rw [hw]; simp [hl]) (by decide), hw]
  have HW : Aside (cutN 13 s = w0 :: ws ∧ (w0 :: ws).length = 12 ∧ ws.length = 11) := ⟨hcut, by simp [hl], hl⟩
  clear hw hl hs hm hcut
  go_enter Tryd.func11, Tryd.ntmps11
  go_wp2_with (go_at_call 24; refine (SplitNI 13 (by decide) s _ (m := m) (HM.out _ _) HL.out (by decide) (by decide)).mono ?_; rintro e w' ⟨q, N, rfl, hq, hq2, hR, hb⟩; simp at hq; have n1 : ¬ w.heap.size = q := (by omega); have n2 : ¬ q = w.heap.size := (by omega); have n3 : ¬ w.heap.size + 1 = q := (by omega); have n4 : ¬ q = w.heap.size + 1 := (by omega); rw [HW.out.1] at hR ⊢; have g0 : w'.cell? ⟨q, 0, none⟩ = some (.string w0) := rls_at hR (i := 0) rfl; rw [HW.out.2.1] at hR ⊢; have R : Aside (Rls 1 w' (.slice (some ⟨q, 0, none⟩) 12 N) (rS (w0 :: ws))) := hR; obtain ⟨hc1, hf1⟩ := bcell hb; have hz1 : w.heap.size < w'.heap.size := (by have := hb.size; (try simp at this); omega); have hy1 : w.heap.size + 1 < w'.heap.size := (by have := hb.size; (try simp at this); omega); (try simp at hc1 hf1); have HB1 : Aside _ := hb; clear hb hR)
  all_goals simp [bodyPost, results, Tryd.results11, go_sem, *]
  refine ⟨_, rfl, rfl, ?_⟩
  repeat refine below_set ?_ (Nat.le_refl _)
  exact below_step HB1.out (below_alloc (below_alloc (Below.refl _ _)))
/-- all blocks but one lie as they lay -/
structure But (b : Nat) (W W' : World) : Prop where
  size : W.heap.size ≤ W'.heap.size
  block : ∀ k, k < W.heap.size → k ≠ b → W'.heap[k]? = W.heap[k]?
theorem But.refl (b : Nat) (W : World) : But b W W := ⟨Nat.le_refl _, fun _ _ _ => rfl⟩
theorem But.below {b : Nat} {W W1 W2 : World} (h : But b W W1) (hb : Below W1.heap.size W1 W2) : But b W W2 :=
  ⟨Nat.le_trans h.size hb.size, fun k hk hn => (hb.block k (Nat.lt_of_lt_of_le hk h.size)).trans (h.block k hk hn)⟩
theorem But.grown {b : Nat} {W W1 W2 : World} (h : But b W W1) (hg : W1.grownBy W2 (some b)) : But b W W2 :=
  ⟨Nat.le_trans h.size hg.size, fun k hk hn => (hg.block k (Nat.lt_of_lt_of_le hk h.size) (by simpa using hn)).trans (h.block k hk hn)⟩
theorem But.cell {b : Nat} {W W1 : World} (h : But b W W1) {k o : Nat} (hk : k < W.heap.size) (hn : k ≠ b) : W1.cell? ⟨k, o, none⟩ = W.cell? ⟨k, o, none⟩ := by
  unfold World.cell?
  simp only [h.block k hk hn]
theorem But.frozen {b : Nat} {W W1 : World} (h : But b W W1) {k o : Nat} (hk : k < W.heap.size) (hn : k ≠ b) : W1.frozen? ⟨k, o, none⟩ = W.frozen? ⟨k, o, none⟩ := by
  unfold World.frozen?
  simp only [h.block k hk hn]
structure Cup (p : Prop) : Prop where
  out : p
theorem run_arrayAt3 (a : Addr) (c : Nat) (w : World) : (Instr.arrayAt 24 (.slice (some a) 3 c)).run Tryd.prog w = .ok (.pointer (some a)) w := by
  simp [Instr.arrayAt, Sem.run_bind, run_underlying Tryd.underlying24]
def row11 (out : List Nat) : List Value := out.map (Value.float .f32) ++ List.replicate (11 - out.length) (Value.float .f32 0)
theorem row11_len {out : List Nat} (h : out.length ≤ 11) : (row11 out).length = 11 := by simp [row11]; omega
theorem row11_at {out : List Nat} {i : Nat} (hi : out.length = i) (h : i < 11) : (row11 out)[i]? = some (.float .f32 0) := by
  unfold row11
  rw [List.getElem?_append_right (by simp [hi])]
  simp [hi, List.getElem?_replicate]; omega
theorem row11_set {out : List Nat} {i : Nat} (hi : out.length = i) (h : i < 11) (x : Nat) : (row11 out).set i (.float .f32 x) = row11 (out ++ [x]) := by
  unfold row11
  subst hi
  rw [List.set_append_right _ _ (by simp)]
  simp only [List.length_map, Nat.sub_self, List.map_append, List.map_cons, List.map_nil, List.length_append, List.length_cons, List.length_nil]
  rw [show 11 - out.length = (11 - (out.length + (0 + 1))) + 1 by omega, List.replicate_succ, List.set_cons_zero]
  simp
theorem rowNew (w : World) (cs : Array Value) (t : TypeId) (hs : cs.size = 11) : (w.alloc (.cells cs t)).ownsRow w.heap.size t 1 (.slice (some ⟨w.heap.size, 0, none⟩) 11 11) 11 cs.toList :=
  World.ownsRow_lit w cs 11 (Nat.le_refl _) (by decide) (by rw [hs])
set_option maxRecDepth 20000 in
set_option maxHeartbeats 4000000 in
theorem ReadCameraI4 (s : ByteArray) (w : World) {m : Int} (h5 : 5 < w.heap.size) (hm : w.cell? ⟨5, 0, none⟩ = some (.int .i64 m)) (hs : s.size ≤ 1048576) {w0 : ByteArray} {ws : List ByteArray} (hw : segsB s = w0 :: ws) (hl : ws.length = 11) (h0 : (w0.toList == [99, 97, 109, 101, 114, 97]) = true) (V : Value)
    (hn : numsV ws = none → V = .tuple #[zero11, .int .i64 5])
    (hy : ∀ x0 x1 x2 x3 x4 x5 x6 x7 x8 x9 x10, numsV ws = some [x0, x1, x2, x3, x4, x5, x6, x7, x8, x9, x10] → ∃ b : Bool, V = (if b then .tuple #[camV x0 x1 x2 x3 x4 x5 x6 x7 x8 x9 x10, .int .i64 0] else .tuple #[zero11, .int .i64 5]) ∧ ∀ W, Calls Tryd.prog 29 #[camV x0 x1 x2 x3 x4 x5 x6 x7 x8 x9 x10] W (Gives (isB b) W)) : Calls Tryd.prog 11 #[.string s] w (Gives (fun v => v = V) w) := by
  have HL : Aside (s.size ≤ 1048576) := hs
  have HM : Aside (∀ o1 o2, ((w.alloc o1).alloc o2).cell? ⟨5, 0, none⟩ = some (.int .i64 m)) := fun o1 o2 => ((below_alloc (below_alloc (Below.refl _ _))).cell (p := ⟨5, 0, none⟩) h5).trans hm
  have hk5 : w.heap.size < w.heap.size + 1 + 1 := by omega
  have hk6 : ¬ w.heap.size = w.heap.size + 1 := by omega
  have hk7 : w.heap.size + 1 < w.heap.size + 1 + 1 := by omega
  have hcut : cutN 13 s = w0 :: ws := by rw [cutN_eq (by rw [hw]; simp [hl]) (by decide), hw]
  have HW : Aside (cutN 13 s = w0 :: ws ∧ (w0 :: ws).length = 12 ∧ ws.length = 11) := ⟨hcut, by simp [hl], hl⟩
  have HN : Aside (numsV ws = none → V = .tuple #[zero11, .int .i64 5]) := hn
  have HY : Aside (∀ x0 x1 x2 x3 x4 x5 x6 x7 x8 x9 x10, numsV ws = some [x0, x1, x2, x3, x4, x5, x6, x7, x8, x9, x10] → ∃ b : Bool, V = (if b then .tuple #[camV x0 x1 x2 x3 x4 x5 x6 x7 x8 x9 x10, .int .i64 0] else .tuple #[zero11, .int .i64 5]) ∧ ∀ W, Calls Tryd.prog 29 #[camV x0 x1 x2 x3 x4 x5 x6 x7 x8 x9 x10] W (Gives (isB b) W)) := hy
  clear hw hl hs hm hcut hn hy
  go_enter Tryd.func11, Tryd.ntmps11
  go_wp2_with (go_at_call 24; refine (SplitNI 13 (by decide) s _ (m := m) (HM.out _ _) HL.out (by decide) (by decide)).mono ?_; rintro e w' ⟨q, N, rfl, hq, hq2, hR, hb⟩; simp at hq; have n1 : ¬ w.heap.size = q := (by omega); have n2 : ¬ q = w.heap.size := (by omega); have n3 : ¬ w.heap.size + 1 = q := (by omega); have n4 : ¬ q = w.heap.size + 1 := (by omega); rw [HW.out.1] at hR ⊢; have g0 : w'.cell? ⟨q, 0, none⟩ = some (.string w0) := rls_at hR (i := 0) rfl; rw [HW.out.2.1] at hR ⊢; have R : Aside (Rls 1 w' (.slice (some ⟨q, 0, none⟩) 12 N) (rS (w0 :: ws))) := hR; obtain ⟨hc1, hf1⟩ := bcell hb; have hz1 : w.heap.size < w'.heap.size := (by have := hb.size; (try simp at this); omega); have hy1 : w.heap.size + 1 < w'.heap.size := (by have := hb.size; (try simp at this); omega); (try simp at hc1 hf1); have HB1 : Aside _ := hb; clear hb hR)
  have OW : Aside (w'.ownsRow (w.heap.size + 1) 63 1 (.slice (some ⟨w.heap.size + 1, 0, none⟩) 11 11) 11 (row11 [])) := World.ownsRow.grown_to (by have := rowNew (w.alloc (.cells #[.float .f32 0, .float .f32 0, .float .f32 0, .float .f32 0, .float .f32 0, .float .f32 0, .float .f32 0, .float .f32 0, .float .f32 0, .float .f32 0, .float .f32 0] 30)) #[.float .f32 0, .float .f32 0, .float .f32 0, .float .f32 0, .float .f32 0, .float .f32 0, .float .f32 0, .float .f32 0, .float .f32 0, .float .f32 0, .float .f32 0] 63 rfl; simpa [row11] using this) HB1.out
  go_loopg [22] 11 (fun k s22 wr => ∃ (i : Nat) (out : List Nat), s22 = .int .i64 i ∧ i + k = 11 ∧ out.length = i ∧ numsV (ws.take i) = some out ∧ wr.ownsRow (w.heap.size + 1) 63 1 (.slice (some ⟨w.heap.size + 1, 0, none⟩) 11 11) 11 (row11 out) ∧ But (w.heap.size + 1) w' wr ∧ Below w.heap.size w wr)
  · exact ⟨0, [], rfl, rfl, rfl, rfl, OW, But.refl _ _, below_step HB1.out (below_alloc (below_alloc (Below.refl _ _)))⟩
  · obtain ⟨i, out, rfl, hik, ho, ht, OR, hbut, HB⟩ := hrel
    have hcr : ∀ b o, b < w'.heap.size → ¬ b = w.heap.size + 1 → wr.cell? ⟨b, o, none⟩ = w'.cell? ⟨b, o, none⟩ := fun b o h1 h2 => hbut.cell h1 h2
    have hfr : ∀ b o, b < w'.heap.size → ¬ b = w.heap.size + 1 → wr.frozen? ⟨b, o, none⟩ = w'.frozen? ⟨b, o, none⟩ := fun b o h1 h2 => hbut.frozen h1 h2
    have hzr : w.heap.size < wr.heap.size := Nat.lt_of_lt_of_le hz1 hbut.size
    have hyr : w.heap.size + 1 < wr.heap.size := Nat.lt_of_lt_of_le hy1 hbut.size
    have B : Aside (i + gk = 11 ∧ out.length = i ∧ numsV (ws.take i) = some out ∧ wr.ownsRow (w.heap.size + 1) 63 1 (.slice (some ⟨w.heap.size + 1, 0, none⟩) 11 11) 11 (row11 out) ∧ But (w.heap.size + 1) w' wr ∧ Below w.heap.size w wr) := ⟨hik, ho, ht, OR, hbut, HB⟩
    clear ho ht OR hbut HB
    by_cases hi : i < 11
    · obtain ⟨b, hb⟩ : ∃ b, ws[i]? = some b := ⟨ws[i]'(by rw [HW.out.2.2]; exact hi), List.getElem?_eq_getElem _⟩
      have hx0 : w'.cell? ⟨q, i + 1, none⟩ = some (.string b) := by
        have h := rls_at R.out (i := i + 1) (x := .string b) (by simp [rS, hb])
        have e : (⟨q, 0, none⟩ : Addr).add (i + 1) = ⟨q, i + 1, none⟩ := by simp [Addr.add]
        rwa [e] at h
      have hi' : (i : Int) < 11 := by omega
      have hi0 : (0 : Int) ≤ (i : Int) := Int.natCast_nonneg _
      have hi2 : ((i + 1 : Nat) : Int) < ((12 : Nat) : Int) := by omega
      have C : Aside (ws[i]? = some b) := hb
      clear hb
      cases hres : resV b with
      | none =>
        have E : Aside (resV b = none) := hres
        clear hres
        go_wp2_with (first
          | (refine wpList_idxR rfl rfl (by kernel_rfl) (by kernel_rfl) rfl (i := ((i + 1 : Nat) : Int)) rfl (Int.natCast_nonneg _) hi2 ?_; simp only [Int.toNat_natCast, Nat.mul_one])
          | (go_at_call 25; refine (ReadNumberI b _).mono ?_; rintro e w4 ⟨v4, rfl, hv, hb⟩; rw [E.out] at hv; (simp only [isR] at hv; subst hv); obtain ⟨hc4, hf4⟩ := bcell hb; have HB4 : Aside _ := hb; clear hb))
        all_goals simp [bodyPost, results, Tryd.results11, go_sem, *]
        all_goals refine ⟨_, rfl, (HN.out (numsV_bad C.out E.out)).symm, ?_⟩
        all_goals repeat refine below_set ?_ (Nat.le_refl _)
        all_goals exact below_step HB4.out B.out.2.2.2.2.2
      | some x =>
        have E : Aside (resV b = some x) := hres
        clear hres
        have hw0 : wr.cell? ⟨w.heap.size + 1, i, none⟩ = some (.float .f32 0) := by
          rw [B.out.2.2.2.1.cellAt i (by omega)]; exact row11_at B.out.2.1 hi
        have hw1 : wr.frozen? ⟨w.heap.size + 1, i, none⟩ = false := B.out.2.2.2.1.frozenAt i
        go_wp2_with (first
          | (refine wpList_idxR rfl rfl (by kernel_rfl) (by kernel_rfl) rfl (i := ((i + 1 : Nat) : Int)) rfl (Int.natCast_nonneg _) hi2 ?_; simp only [Int.toNat_natCast, Nat.mul_one])
          | (go_at_call 25; refine (ReadNumberI b _).mono ?_; rintro e w4 ⟨v4, rfl, hv, hb⟩; rw [E.out] at hv; (simp only [isR] at hv; subst hv); obtain ⟨hc4, hf4⟩ := bcell hb; have HB4 : Aside _ := hb; clear hb))
        obtain ⟨hik, ho, ht, OR, hbut, HB⟩ := B.out
        obtain ⟨st1, st2⟩ := (OR.grown_to HB4.out).stored i (.float .f32 x)
        have hst := take_stepB C.out E.out ht
        rw [row11_set ho hi] at st1
        go_roundg (gk - 1)
        · refine ⟨i + 1, out ++ [x], ?_, by omega, by simp; omega, hst, st1, (hbut.below HB4.out).grown st2, below_set (below_step HB4.out HB) (Nat.le_succ _)⟩
          first
            | (congr 1; done)
            | (congr 1; unfold wrap64; omega)
        · omega
    · have hie : i = 11 := by omega
      subst hie
      obtain ⟨hik, ho, ht, OR, hbut, HB⟩ := B.out
      have ht' : numsV ws = some out := by rw [List.take_of_length_le (by rw [HW.out.2.2]; exact Nat.le_refl _)] at ht; exact ht
      obtain ⟨x0, x1, x2, x3, x4, x5, x6, x7, x8, x9, x10, rfl⟩ : ∃ x0 x1 x2 x3 x4 x5 x6 x7 x8 x9 x10, out = [x0, x1, x2, x3, x4, x5, x6, x7, x8, x9, x10] := by
        match out, ho with
        | [x0, x1, x2, x3, x4, x5, x6, x7, x8, x9, x10], _ => exact ⟨x0, x1, x2, x3, x4, x5, x6, x7, x8, x9, x10, rfl⟩
      obtain ⟨bv, hV, hok⟩ := HY.out _ _ _ _ _ _ _ _ _ _ _ ht'
      have HK : Aside (V = (if bv then .tuple #[camV x0 x1 x2 x3 x4 x5 x6 x7 x8 x9 x10, .int .i64 0] else .tuple #[zero11, .int .i64 5]) ∧ ∀ W, Calls Tryd.prog 29 #[camV x0 x1 x2 x3 x4 x5 x6 x7 x8 x9 x10] W (Gives (isB bv) W)) := ⟨hV, hok⟩
      have y0 : wr.cell? ⟨w.heap.size + 1, 0, none⟩ = some (.float .f32 x0) := (OR.cellAt 0 (by omega)).trans rfl
      have y1 : wr.cell? ⟨w.heap.size + 1, 1, none⟩ = some (.float .f32 x1) := (OR.cellAt 1 (by omega)).trans rfl
      have y2 : wr.cell? ⟨w.heap.size + 1, 2, none⟩ = some (.float .f32 x2) := (OR.cellAt 2 (by omega)).trans rfl
      have y3 : wr.cell? ⟨w.heap.size + 1, 3, none⟩ = some (.float .f32 x3) := (OR.cellAt 3 (by omega)).trans rfl
      have y4 : wr.cell? ⟨w.heap.size + 1, 4, none⟩ = some (.float .f32 x4) := (OR.cellAt 4 (by omega)).trans rfl
      have y5 : wr.cell? ⟨w.heap.size + 1, 5, none⟩ = some (.float .f32 x5) := (OR.cellAt 5 (by omega)).trans rfl
      have y6 : wr.cell? ⟨w.heap.size + 1, 6, none⟩ = some (.float .f32 x6) := (OR.cellAt 6 (by omega)).trans rfl
      have y7 : wr.cell? ⟨w.heap.size + 1, 7, none⟩ = some (.float .f32 x7) := (OR.cellAt 7 (by omega)).trans rfl
      have y8 : wr.cell? ⟨w.heap.size + 1, 8, none⟩ = some (.float .f32 x8) := (OR.cellAt 8 (by omega)).trans rfl
      have y9 : wr.cell? ⟨w.heap.size + 1, 9, none⟩ = some (.float .f32 x9) := (OR.cellAt 9 (by omega)).trans rfl
      have y10 : wr.cell? ⟨w.heap.size + 1, 10, none⟩ = some (.float .f32 x10) := (OR.cellAt 10 (by omega)).trans rfl
      clear ht ht' hik ho OR hbut hV hok HN HY
      have hsp := run_arrayAt3
      go_wp2_with fail
      have hK : ∀ W, Below wr.heap.size wr W → W.cell? ⟨w.heap.size + 1, 0, none⟩ = some (.float .f32 x0) ∧ W.cell? ⟨w.heap.size + 1, 1, none⟩ = some (.float .f32 x1) ∧ W.cell? ⟨w.heap.size + 1, 2, none⟩ = some (.float .f32 x2) ∧ W.cell? ⟨w.heap.size + 1, 3, none⟩ = some (.float .f32 x3) ∧ W.cell? ⟨w.heap.size + 1, 4, none⟩ = some (.float .f32 x4) ∧ W.cell? ⟨w.heap.size + 1, 5, none⟩ = some (.float .f32 x5) ∧ W.cell? ⟨w.heap.size + 1, 6, none⟩ = some (.float .f32 x6) ∧ W.cell? ⟨w.heap.size + 1, 7, none⟩ = some (.float .f32 x7) ∧ W.cell? ⟨w.heap.size + 1, 8, none⟩ = some (.float .f32 x8) ∧ W.cell? ⟨w.heap.size + 1, 9, none⟩ = some (.float .f32 x9) ∧ W.cell? ⟨w.heap.size + 1, 10, none⟩ = some (.float .f32 x10) ∧ Below wr.heap.size wr W := fun W hW => ⟨(hW.cell (p := ⟨w.heap.size + 1, _, none⟩) hyr).trans y0, (hW.cell (p := ⟨w.heap.size + 1, _, none⟩) hyr).trans y1, (hW.cell (p := ⟨w.heap.size + 1, _, none⟩) hyr).trans y2, (hW.cell (p := ⟨w.heap.size + 1, _, none⟩) hyr).trans y3, (hW.cell (p := ⟨w.heap.size + 1, _, none⟩) hyr).trans y4, (hW.cell (p := ⟨w.heap.size + 1, _, none⟩) hyr).trans y5, (hW.cell (p := ⟨w.heap.size + 1, _, none⟩) hyr).trans y6, (hW.cell (p := ⟨w.heap.size + 1, _, none⟩) hyr).trans y7, (hW.cell (p := ⟨w.heap.size + 1, _, none⟩) hyr).trans y8, (hW.cell (p := ⟨w.heap.size + 1, _, none⟩) hyr).trans y9, (hW.cell (p := ⟨w.heap.size + 1, _, none⟩) hyr).trans y10, hW⟩
      refine (show Cup ?finP → _ from fun hP => ?reg) ?fin
      case reg =>
        go_region_held3 (fun W => W.cell? ⟨w.heap.size + 1, 0, none⟩ = some (.float .f32 x0) ∧ W.cell? ⟨w.heap.size + 1, 1, none⟩ = some (.float .f32 x1) ∧ W.cell? ⟨w.heap.size + 1, 2, none⟩ = some (.float .f32 x2) ∧ W.cell? ⟨w.heap.size + 1, 3, none⟩ = some (.float .f32 x3) ∧ W.cell? ⟨w.heap.size + 1, 4, none⟩ = some (.float .f32 x4) ∧ W.cell? ⟨w.heap.size + 1, 5, none⟩ = some (.float .f32 x5) ∧ W.cell? ⟨w.heap.size + 1, 6, none⟩ = some (.float .f32 x6) ∧ W.cell? ⟨w.heap.size + 1, 7, none⟩ = some (.float .f32 x7) ∧ W.cell? ⟨w.heap.size + 1, 8, none⟩ = some (.float .f32 x8) ∧ W.cell? ⟨w.heap.size + 1, 9, none⟩ = some (.float .f32 x9) ∧ W.cell? ⟨w.heap.size + 1, 10, none⟩ = some (.float .f32 x10) ∧ Below wr.heap.size wr W) (first | exact hK _ (Below.refl _ _) | exact hK _ (Below.drew (Below.refl _ _)) | exact hK _ (by repeat' first | exact Below.refl _ _ | assumption | refine below_alloc ?_ | refine Below.drew ?_ | refine below_set ?_ (by simp)) | go_keep) (first | fail)
        all_goals exact hP.out
      refine ⟨?_⟩
      all_goals have hz5 : w.heap.size < wr.heap.size + 1 := Nat.lt_succ_of_lt hzr
      all_goals have hz6 : ¬ w.heap.size = wr.heap.size := Nat.ne_of_lt hzr
      all_goals clear hK y0 y1 y2 y3 y4 y5 y6 y7 y8 y9 y10 hsp
      all_goals cases bv
      all_goals go_wp2_with (go_at_call 29; refine (HK.out.2 _).mono ?_; rintro e w3 ⟨_, rfl, eb, hb⟩; (simp only [isB] at eb; subst eb); obtain ⟨hc3, hf3⟩ := bcell hb; (try simp at hc3 hf3); have hz3 : w.heap.size < w3.heap.size := (by have := hb.size; simp at this; omega); have hz4 : wr.heap.size < w3.heap.size := (by have := hb.size; simp at this; omega); have HB3 : Aside _ := hb; clear hb)
      all_goals simp [bodyPost, results, Tryd.results11, go_sem, *]
      all_goals refine ⟨_, rfl, HK.out.1.symm, ?_⟩
      all_goals repeat refine below_set ?_ (Nat.le_refl _)
      all_goals exact below_step HB3.out (Below.drew (below_alloc HB))
end Go.Proofs.YtnjckcampgankaaDoor
