/- Contracts: points read from their texts (the program's side). -/
import Derived.Test.YtljpggeogiabgaaDoorTxtD
import Derived.Test.YtljpggeogiabgaaDoorShlf
namespace Go.Proofs.YtljpggeogiabgaaDoor
open Go.ChangeShapes Go.WideShapes Go.ChangeAt Go.RowKit Go.Flo Go.Mem
set_option linter.unusedSimpArgs false
set_option linter.unusedVariables false
/-- cut into so many parts at most -/
def cutN (n : Nat) (s : ByteArray) : List ByteArray := Lib.splitB blank 0 (min n (s.size + 1) - 1) s
theorem segsB_le (s : ByteArray) : (segsB s).length ≤ s.size + 1 := by rw [segsB_len]; exact segs_len _
theorem cutN_len {n : Nat} (hn : 1 ≤ n) (s : ByteArray) : (cutN n s).length = min n (segsB s).length := by
  have h := (splitB_segs s (min n (s.size + 1) - 1)).1
  have := segsB_le s
  unfold cutN; rw [h]; omega
theorem cutN_eq {n : Nat} {s : ByteArray} (h : (segsB s).length ≤ n) (hn : 1 ≤ n) : cutN n s = segsB s := by
  have := segsB_le s
  exact (splitB_segs s (min n (s.size + 1) - 1)).2.1 (by omega)
theorem rls_cells {w : World} {t : TypeId} {bs : List ByteArray} {N : Nat} : Rls 1 (w.alloc (.cells (Lib.cellsOf bs N) t)) (.slice (some ⟨w.heap.size, 0, none⟩) bs.length N) (rS bs) := by
  refine ⟨some ⟨w.heap.size, 0, none⟩, N, by simp [rS], fun j r hr => ⟨_, rfl, by simp, fun k x hx => ?_⟩⟩
  simp only [rS, List.getElem?_map, Option.map_eq_some_iff] at hr
  obtain ⟨b, hb, rfl⟩ := hr
  cases k with
  | succ k => simp at hx
  | zero =>
    simp at hx; subst hx
    rw [Addr.add_mid, Addr.add_mid]
    show World.cell? _ ⟨w.heap.size, _, none⟩ = _
    rw [World.cell?_alloc_at _ _ _ _ rfl]
    have hj := (List.getElem?_eq_some_iff.1 hb).1
    simp only [Lib.cellsOf, Nat.mul_one, Nat.add_zero, Nat.zero_add, List.getElem?_toArray]
    rw [List.getElem?_append_left (by simpa using hj), List.getElem?_map, hb]; rfl
--## SplitN 14
theorem SplitNI (n : Nat) {k : Int} (hk : k = n) (s : ByteArray) (w : World) {m : Int} (hm : w.cell? ⟨1, 0, none⟩ = some (.int .i64 m)) (hs : s.size ≤ 1048576) (hn : 1 ≤ n) (h63 : n ≤ 9223372036854775807) :
    Calls Tryd.prog 14 #[.string s, .string ⟨#[32]⟩, .int .i64 k] w fun e w' => ∃ g N, e = .returned (.slice (some ⟨g, 0, none⟩) (cutN n s).length N) ∧ w.heap.size ≤ g ∧ g < w'.heap.size ∧ Rls 1 w' (.slice (some ⟨g, 0, none⟩) (cutN n s).length N) (rS (cutN n s)) ∧ Below w.heap.size w w' := by
  subst hk
  refine (Tryd.strings_SplitN s blank n m w (by omega) hm (by decide) hn h63).mono ?_
  rintro e w' ⟨rfl, rfl⟩
  exact ⟨_, _, rfl, Nat.le_refl _, by simp, rls_cells, below_alloc (Below.refl _ _)⟩
--## ReadPointI 21 15
theorem rls3S {w : World} {u : Value} {x y z : ByteArray} (h : Rls 1 w u (rS [x, y, z])) : ∃ b c, u = .slice (some b) 3 c ∧ b.block < w.heap.size ∧ w.cell? b = some (.string x) ∧ w.cell? ⟨b.block, b.off + 1, none⟩ = some (.string y) ∧ w.cell? ⟨b.block, b.off + 2, none⟩ = some (.string z) := by
  obtain ⟨b, c, rfl, h0, h1⟩ := h.at (i := 0) rfl
  obtain ⟨b1, c1, e1, _, h2⟩ := h.at (i := 1) rfl
  obtain ⟨b2, c2, e2, _, h3⟩ := h.at (i := 2) rfl
  cases e1; cases e2
  have hz : (b.add (0 * 1)).add 0 = b := by simp [Addr.add]
  have h0' : b.block < w.heap.size := by rw [add_block'] at h0; exact h0
  refine ⟨b, c, rfl, h0', ?_, ?_, ?_⟩
  · have := h1 0 _ rfl; rwa [hz] at this
  · have := h2 0 _ rfl
    have e : (b.add (1 * 1)).add 0 = ⟨b.block, b.off + 1, none⟩ := by simp [Addr.add]
    rwa [e] at this
  · have := h3 0 _ rfl
    have e : (b.add (2 * 1)).add 0 = ⟨b.block, b.off + 2, none⟩ := by simp [Addr.add]
    rwa [e] at this
theorem numsV3 {a b c : ByteArray} : numsV [a, b, c] = match resV a, resV b, resV c with | some x, some y, some z => some [x, y, z] | _, _, _ => none := by
  simp only [numsV]
  cases resV a <;> cases resV b <;> cases resV c <;> rfl
theorem three_of {α : Type} {l : List α} (h : l.length = 3) : ∃ a b c, l = [a, b, c] := by
  match l, h with
  | [a, b, c], _ => exact ⟨a, b, c, rfl⟩
theorem ptR_other {ws : List ByteArray} (h : ws.length ≠ 3) : ptR ws = none := by
  cases hn : numsV ws with
  | none => exact ptR_none hn
  | some ns => exact ptR_len hn (by rw [numsV_len hn]; exact h)
set_option maxRecDepth 20000 in
set_option maxHeartbeats 1000000 in
theorem ReadPointI0 (s : ByteArray) (w : World) {m : Int} (h5 : 1 < w.heap.size) (hm : w.cell? ⟨1, 0, none⟩ = some (.int .i64 m)) (hs : s.size ≤ 1048576) (h3 : (segsB s).length ≠ 3) : Calls Tryd.prog 21 #[.string s] w (Gives (isRP (ptR (segsB s))) w) := by
  have hP := ptR_other h3
  have hl := cutN_len (n := 4) (by decide) s
  have hne : (((cutN 4 s).length : Int) == 3) = false := by simp; omega
  have hne' : (((cutN 4 s).length : Int) != 3) = true := by simp; omega
  have HL : Aside (s.size ≤ 1048576 ∧ ptR (segsB s) = none) := ⟨hs, hP⟩
  have hm2 : ∀ o1 o2, ((w.alloc o1).alloc o2).cell? ⟨1, 0, none⟩ = some (.int .i64 m) := fun o1 o2 => ((below_alloc (below_alloc (Below.refl _ _))).cell (p := ⟨1, 0, none⟩) h5).trans hm
  clear hP hl h3 hs hm
  go_enter Tryd.func21, Tryd.ntmps21
  go_wp2_with (go_at_call 14; refine (SplitNI 4 (by decide) s _ (m := m) (hm2 _ _) HL.out.1 (by decide) (by decide)).mono ?_; rintro e w' ⟨g, N, rfl, _, _, _, hb⟩; obtain ⟨hc1, hf1⟩ := bcell hb; have hz1 : w.heap.size < w'.heap.size := (by have := hb.size; (try simp at this); omega); (try simp at hc1 hf1); have HB1 : Aside _ := hb; clear hb)
  have hz5 : w.heap.size < w.heap.size + 1 + 1 := by omega
  have hz6 : ¬ w.heap.size = w.heap.size + 1 := by omega
  all_goals simp [bodyPost, results, Tryd.results21, go_sem, *]
  rw [HL.out.2]
  exact ⟨_, rfl, rfl, below_set (below_set (below_set (below_step HB1.out (below_alloc (below_alloc (Below.refl _ _)))) (Nat.le_refl _)) (Nat.le_refl _)) (Nat.le_refl _)⟩
theorem rls3T {w : World} {g N : Nat} {x y z : ByteArray} (h : Rls 1 w (.slice (some ⟨g, 0, none⟩) [x, y, z].length N) (rS [x, y, z])) : w.cell? ⟨g, 0, none⟩ = some (.string x) ∧ w.cell? ⟨g, 1, none⟩ = some (.string y) ∧ w.cell? ⟨g, 2, none⟩ = some (.string z) := by
  obtain ⟨b, c, e, _, h1, h2, h3⟩ := rls3S h
  cases e
  exact ⟨h1, by simpa using h2, by simpa using h3⟩
set_option maxRecDepth 20000 in
set_option maxHeartbeats 4000000 in
theorem ReadPointI1 (s : ByteArray) (w : World) {m : Int} (h5 : 1 < w.heap.size) (hm : w.cell? ⟨1, 0, none⟩ = some (.int .i64 m)) (hs : s.size ≤ 1048576) {a b c : ByteArray} (h3 : segsB s = [a, b, c]) : Calls Tryd.prog 21 #[.string s] w (Gives (isRP (ptR [a, b, c])) w) := by
  have hcut : cutN 4 s = [a, b, c] := by rw [cutN_eq (by rw [h3]; simp) (by decide), h3]
  have HL : Aside (s.size ≤ 1048576 ∧ cutN 4 s = [a, b, c]) := ⟨hs, hcut⟩
  have HM : Aside (∀ o1 o2, ((w.alloc o1).alloc o2).cell? ⟨1, 0, none⟩ = some (.int .i64 m)) := fun o1 o2 => ((below_alloc (below_alloc (Below.refl _ _))).cell (p := ⟨1, 0, none⟩) h5).trans hm
  clear hcut h3 hs hm
  have hk5 : w.heap.size < w.heap.size + 1 + 1 := by omega
  have hk6 : ¬ w.heap.size = w.heap.size + 1 := by omega
  have hk7 : w.heap.size + 1 < w.heap.size + 1 + 1 := by omega
  cases ha : resV a with
  | none =>
    have hP : ptR [a, b, c] = none := ptR_none (by rw [numsV3, ha])
    have A : Aside (resV a = none ∧ resV b = resV b ∧ resV c = resV c ∧ ptR [a, b, c] = none) := ⟨ha, rfl, rfl, hP⟩
    clear ha hP
    go_enter Tryd.func21, Tryd.ntmps21
    go_wp2_with (go_at_call 14; refine (SplitNI 4 (by decide) s _ (m := m) (HM.out _ _) HL.out.1 (by decide) (by decide)).mono ?_; rintro e w' ⟨q, N, rfl, hq, hq2, hR, hb⟩; simp at hq; have n1 : ¬ w.heap.size = q := (by omega); have n2 : ¬ q = w.heap.size := (by omega); have n3 : ¬ w.heap.size + 1 = q := (by omega); have n4 : ¬ q = w.heap.size + 1 := (by omega); rw [HL.out.2] at hR ⊢; obtain ⟨g1, g2, g3⟩ := rls3T hR; simp only [List.length_cons, List.length_nil, Nat.zero_add, Nat.reduceAdd]; obtain ⟨hc1, hf1⟩ := bcell hb; have hz1 : w.heap.size < w'.heap.size := (by have := hb.size; (try simp at this); omega); have hy1 : w.heap.size + 1 < w'.heap.size := (by have := hb.size; (try simp at this); omega); (try simp at hc1 hf1); have HB1 : Aside _ := hb; clear hb hR)
    refine wp_loop_rounds 4 ?_
    repeat any_goals (rw [rounds_succ]; go_wp2_with (first | (go_at_call 15; (with_reducible refine (ReadNumberI a _).mono ?_); rintro e w4 ⟨v4, rfl, hv, hb⟩; rw [A.out.1] at hv; (simp only [isR] at hv; subst hv); obtain ⟨hc4, hf4⟩ := bcell hb; have hz4 : w.heap.size < w4.heap.size := (by have := hb.size; (try simp at this); omega); have hy4 : w.heap.size + 1 < w4.heap.size := (by have := hb.size; (try simp at this); omega); have hx4 : q < w4.heap.size := (by have := hb.size; (try simp at this); omega); (try simp at hc4 hf4); have HB4 : Aside _ := hb; clear hb) | (go_at_call 15; (with_reducible refine (ReadNumberI b _).mono ?_); rintro e w5 ⟨v5, rfl, hv, hb⟩; rw [A.out.2.1] at hv; (simp only [isR] at hv; subst hv); obtain ⟨hc5, hf5⟩ := bcell hb; have hz5 : w.heap.size < w5.heap.size := (by have := hb.size; (try simp at this); omega); have hy5 : w.heap.size + 1 < w5.heap.size := (by have := hb.size; (try simp at this); omega); have hx5 : q < w5.heap.size := (by have := hb.size; (try simp at this); omega); (try simp at hc5 hf5); have HB5 : Aside _ := hb; clear hb) | (go_at_call 15; (with_reducible refine (ReadNumberI c _).mono ?_); rintro e w6 ⟨v6, rfl, hv, hb⟩; rw [A.out.2.2.1] at hv; (simp only [isR] at hv; subst hv); obtain ⟨hc6, hf6⟩ := bcell hb; have hz6 : w.heap.size < w6.heap.size := (by have := hb.size; (try simp at this); omega); have hy6 : w.heap.size + 1 < w6.heap.size := (by have := hb.size; (try simp at this); omega); have hx6 : q < w6.heap.size := (by have := hb.size; (try simp at this); omega); (try simp at hc6 hf6); have HB6 : Aside _ := hb; clear hb)))
    all_goals simp [bodyPost, results, Tryd.results21, go_sem, *]
    rw [A.out.2.2.2]
    exact ⟨_, rfl, rfl, (below_set (below_set (below_set (below_step HB4.out (below_step HB1.out (below_alloc (below_alloc (Below.refl _ _))))) (by first | exact Nat.le_refl _ | exact Nat.le_succ _)) (by first | exact Nat.le_refl _ | exact Nat.le_succ _)) (by first | exact Nat.le_refl _ | exact Nat.le_succ _))⟩
  | some x =>
    cases hb0 : resV b with
    | none =>
      have hP : ptR [a, b, c] = none := ptR_none (by rw [numsV3, ha, hb0])
      have A : Aside (resV a = some x ∧ resV b = none ∧ resV c = resV c ∧ ptR [a, b, c] = none) := ⟨ha, hb0, rfl, hP⟩
      clear ha hb0 hP
      go_enter Tryd.func21, Tryd.ntmps21
      go_wp2_with (go_at_call 14; refine (SplitNI 4 (by decide) s _ (m := m) (HM.out _ _) HL.out.1 (by decide) (by decide)).mono ?_; rintro e w' ⟨q, N, rfl, hq, hq2, hR, hb⟩; simp at hq; have n1 : ¬ w.heap.size = q := (by omega); have n2 : ¬ q = w.heap.size := (by omega); have n3 : ¬ w.heap.size + 1 = q := (by omega); have n4 : ¬ q = w.heap.size + 1 := (by omega); rw [HL.out.2] at hR ⊢; obtain ⟨g1, g2, g3⟩ := rls3T hR; simp only [List.length_cons, List.length_nil, Nat.zero_add, Nat.reduceAdd]; obtain ⟨hc1, hf1⟩ := bcell hb; have hz1 : w.heap.size < w'.heap.size := (by have := hb.size; (try simp at this); omega); have hy1 : w.heap.size + 1 < w'.heap.size := (by have := hb.size; (try simp at this); omega); (try simp at hc1 hf1); have HB1 : Aside _ := hb; clear hb hR)
      refine wp_loop_rounds 4 ?_
      repeat any_goals (rw [rounds_succ]; go_wp2_with (first | (go_at_call 15; (with_reducible refine (ReadNumberI a _).mono ?_); rintro e w4 ⟨v4, rfl, hv, hb⟩; rw [A.out.1] at hv; (simp only [isR] at hv; subst hv); obtain ⟨hc4, hf4⟩ := bcell hb; have hz4 : w.heap.size < w4.heap.size := (by have := hb.size; (try simp at this); omega); have hy4 : w.heap.size + 1 < w4.heap.size := (by have := hb.size; (try simp at this); omega); have hx4 : q < w4.heap.size := (by have := hb.size; (try simp at this); omega); (try simp at hc4 hf4); have HB4 : Aside _ := hb; clear hb) | (go_at_call 15; (with_reducible refine (ReadNumberI b _).mono ?_); rintro e w5 ⟨v5, rfl, hv, hb⟩; rw [A.out.2.1] at hv; (simp only [isR] at hv; subst hv); obtain ⟨hc5, hf5⟩ := bcell hb; have hz5 : w.heap.size < w5.heap.size := (by have := hb.size; (try simp at this); omega); have hy5 : w.heap.size + 1 < w5.heap.size := (by have := hb.size; (try simp at this); omega); have hx5 : q < w5.heap.size := (by have := hb.size; (try simp at this); omega); (try simp at hc5 hf5); have HB5 : Aside _ := hb; clear hb) | (go_at_call 15; (with_reducible refine (ReadNumberI c _).mono ?_); rintro e w6 ⟨v6, rfl, hv, hb⟩; rw [A.out.2.2.1] at hv; (simp only [isR] at hv; subst hv); obtain ⟨hc6, hf6⟩ := bcell hb; have hz6 : w.heap.size < w6.heap.size := (by have := hb.size; (try simp at this); omega); have hy6 : w.heap.size + 1 < w6.heap.size := (by have := hb.size; (try simp at this); omega); have hx6 : q < w6.heap.size := (by have := hb.size; (try simp at this); omega); (try simp at hc6 hf6); have HB6 : Aside _ := hb; clear hb)))
      all_goals simp [bodyPost, results, Tryd.results21, go_sem, *]
      rw [A.out.2.2.2]
      exact ⟨_, rfl, rfl, (below_set (below_set (below_set (below_step HB5.out (below_set (below_step HB4.out (below_step HB1.out (below_alloc (below_alloc (Below.refl _ _))))) (by first | exact Nat.le_refl _ | exact Nat.le_succ _))) (by first | exact Nat.le_refl _ | exact Nat.le_succ _)) (by first | exact Nat.le_refl _ | exact Nat.le_succ _)) (by first | exact Nat.le_refl _ | exact Nat.le_succ _))⟩
    | some y =>
      cases hc0 : resV c with
      | none =>
        have hP : ptR [a, b, c] = none := ptR_none (by rw [numsV3, ha, hb0, hc0])
        have A : Aside (resV a = some x ∧ resV b = some y ∧ resV c = none ∧ ptR [a, b, c] = none) := ⟨ha, hb0, hc0, hP⟩
        clear ha hb0 hc0 hP
        go_enter Tryd.func21, Tryd.ntmps21
        go_wp2_with (go_at_call 14; refine (SplitNI 4 (by decide) s _ (m := m) (HM.out _ _) HL.out.1 (by decide) (by decide)).mono ?_; rintro e w' ⟨q, N, rfl, hq, hq2, hR, hb⟩; simp at hq; have n1 : ¬ w.heap.size = q := (by omega); have n2 : ¬ q = w.heap.size := (by omega); have n3 : ¬ w.heap.size + 1 = q := (by omega); have n4 : ¬ q = w.heap.size + 1 := (by omega); rw [HL.out.2] at hR ⊢; obtain ⟨g1, g2, g3⟩ := rls3T hR; simp only [List.length_cons, List.length_nil, Nat.zero_add, Nat.reduceAdd]; obtain ⟨hc1, hf1⟩ := bcell hb; have hz1 : w.heap.size < w'.heap.size := (by have := hb.size; (try simp at this); omega); have hy1 : w.heap.size + 1 < w'.heap.size := (by have := hb.size; (try simp at this); omega); (try simp at hc1 hf1); have HB1 : Aside _ := hb; clear hb hR)
        refine wp_loop_rounds 4 ?_
        repeat any_goals (rw [rounds_succ]; go_wp2_with (first | (go_at_call 15; (with_reducible refine (ReadNumberI a _).mono ?_); rintro e w4 ⟨v4, rfl, hv, hb⟩; rw [A.out.1] at hv; (simp only [isR] at hv; subst hv); obtain ⟨hc4, hf4⟩ := bcell hb; have hz4 : w.heap.size < w4.heap.size := (by have := hb.size; (try simp at this); omega); have hy4 : w.heap.size + 1 < w4.heap.size := (by have := hb.size; (try simp at this); omega); have hx4 : q < w4.heap.size := (by have := hb.size; (try simp at this); omega); (try simp at hc4 hf4); have HB4 : Aside _ := hb; clear hb) | (go_at_call 15; (with_reducible refine (ReadNumberI b _).mono ?_); rintro e w5 ⟨v5, rfl, hv, hb⟩; rw [A.out.2.1] at hv; (simp only [isR] at hv; subst hv); obtain ⟨hc5, hf5⟩ := bcell hb; have hz5 : w.heap.size < w5.heap.size := (by have := hb.size; (try simp at this); omega); have hy5 : w.heap.size + 1 < w5.heap.size := (by have := hb.size; (try simp at this); omega); have hx5 : q < w5.heap.size := (by have := hb.size; (try simp at this); omega); (try simp at hc5 hf5); have HB5 : Aside _ := hb; clear hb) | (go_at_call 15; (with_reducible refine (ReadNumberI c _).mono ?_); rintro e w6 ⟨v6, rfl, hv, hb⟩; rw [A.out.2.2.1] at hv; (simp only [isR] at hv; subst hv); obtain ⟨hc6, hf6⟩ := bcell hb; have hz6 : w.heap.size < w6.heap.size := (by have := hb.size; (try simp at this); omega); have hy6 : w.heap.size + 1 < w6.heap.size := (by have := hb.size; (try simp at this); omega); have hx6 : q < w6.heap.size := (by have := hb.size; (try simp at this); omega); (try simp at hc6 hf6); have HB6 : Aside _ := hb; clear hb)))
        all_goals simp [bodyPost, results, Tryd.results21, go_sem, *]
        rw [A.out.2.2.2]
        exact ⟨_, rfl, rfl, (below_set (below_set (below_set (below_step HB6.out (below_set (below_step HB5.out (below_set (below_step HB4.out (below_step HB1.out (below_alloc (below_alloc (Below.refl _ _))))) (by first | exact Nat.le_refl _ | exact Nat.le_succ _))) (by first | exact Nat.le_refl _ | exact Nat.le_succ _))) (by first | exact Nat.le_refl _ | exact Nat.le_succ _)) (by first | exact Nat.le_refl _ | exact Nat.le_succ _)) (by first | exact Nat.le_refl _ | exact Nat.le_succ _))⟩
      | some z =>
        cases hpl : plainP (cp x y z) with
        | false =>
          have hP : ptR [a, b, c] = none := by rw [ptR_three (by rw [numsV3, ha, hb0, hc0]), hpl]; rfl
          have A : Aside (resV a = some x ∧ resV b = some y ∧ resV c = some z ∧ ptR [a, b, c] = none) := ⟨ha, hb0, hc0, hP⟩
          clear ha hb0 hc0 hP
          go_enter Tryd.func21, Tryd.ntmps21
          go_wp2_with (go_at_call 14; refine (SplitNI 4 (by decide) s _ (m := m) (HM.out _ _) HL.out.1 (by decide) (by decide)).mono ?_; rintro e w' ⟨q, N, rfl, hq, hq2, hR, hb⟩; simp at hq; have n1 : ¬ w.heap.size = q := (by omega); have n2 : ¬ q = w.heap.size := (by omega); have n3 : ¬ w.heap.size + 1 = q := (by omega); have n4 : ¬ q = w.heap.size + 1 := (by omega); rw [HL.out.2] at hR ⊢; obtain ⟨g1, g2, g3⟩ := rls3T hR; simp only [List.length_cons, List.length_nil, Nat.zero_add, Nat.reduceAdd]; obtain ⟨hc1, hf1⟩ := bcell hb; have hz1 : w.heap.size < w'.heap.size := (by have := hb.size; (try simp at this); omega); have hy1 : w.heap.size + 1 < w'.heap.size := (by have := hb.size; (try simp at this); omega); (try simp at hc1 hf1); have HB1 : Aside _ := hb; clear hb hR)
          refine wp_loop_rounds 4 ?_
          repeat any_goals (rw [rounds_succ]; go_wp2_with (first | (go_at_call 15; (with_reducible refine (ReadNumberI a _).mono ?_); rintro e w4 ⟨v4, rfl, hv, hb⟩; rw [A.out.1] at hv; (simp only [isR] at hv; subst hv); obtain ⟨hc4, hf4⟩ := bcell hb; have hz4 : w.heap.size < w4.heap.size := (by have := hb.size; (try simp at this); omega); have hy4 : w.heap.size + 1 < w4.heap.size := (by have := hb.size; (try simp at this); omega); have hx4 : q < w4.heap.size := (by have := hb.size; (try simp at this); omega); (try simp at hc4 hf4); have HB4 : Aside _ := hb; clear hb) | (go_at_call 15; (with_reducible refine (ReadNumberI b _).mono ?_); rintro e w5 ⟨v5, rfl, hv, hb⟩; rw [A.out.2.1] at hv; (simp only [isR] at hv; subst hv); obtain ⟨hc5, hf5⟩ := bcell hb; have hz5 : w.heap.size < w5.heap.size := (by have := hb.size; (try simp at this); omega); have hy5 : w.heap.size + 1 < w5.heap.size := (by have := hb.size; (try simp at this); omega); have hx5 : q < w5.heap.size := (by have := hb.size; (try simp at this); omega); (try simp at hc5 hf5); have HB5 : Aside _ := hb; clear hb) | (go_at_call 15; (with_reducible refine (ReadNumberI c _).mono ?_); rintro e w6 ⟨v6, rfl, hv, hb⟩; rw [A.out.2.2.1] at hv; (simp only [isR] at hv; subst hv); obtain ⟨hc6, hf6⟩ := bcell hb; have hz6 : w.heap.size < w6.heap.size := (by have := hb.size; (try simp at this); omega); have hy6 : w.heap.size + 1 < w6.heap.size := (by have := hb.size; (try simp at this); omega); have hx6 : q < w6.heap.size := (by have := hb.size; (try simp at this); omega); (try simp at hc6 hf6); have HB6 : Aside _ := hb; clear hb) | (go_at_call 39; refine (ValidPointI x y z _).mono ?_; rintro e w7 ⟨_, rfl, eb, hb⟩; (simp only [isB, hpl] at eb; subst eb); obtain ⟨hc7, hf7⟩ := bcell hb; have hz7 : w.heap.size < w7.heap.size := (by have := hb.size; (try simp at this); omega); have hy7 : w.heap.size + 1 < w7.heap.size := (by have := hb.size; (try simp at this); omega); (try simp at hc7 hf7); have HB7 : Aside _ := hb; clear hb)))
          all_goals simp [bodyPost, results, Tryd.results21, go_sem, *]
          rw [A.out.2.2.2]
          exact ⟨_, rfl, rfl, (below_set (below_set (below_set (below_step HB7.out (below_set (below_step HB6.out (below_set (below_step HB5.out (below_set (below_step HB4.out (below_step HB1.out (below_alloc (below_alloc (Below.refl _ _))))) (by first | exact Nat.le_refl _ | exact Nat.le_succ _))) (by first | exact Nat.le_refl _ | exact Nat.le_succ _))) (by first | exact Nat.le_refl _ | exact Nat.le_succ _))) (by first | exact Nat.le_refl _ | exact Nat.le_succ _)) (by first | exact Nat.le_refl _ | exact Nat.le_succ _)) (by first | exact Nat.le_refl _ | exact Nat.le_succ _))⟩
        | true =>
          have hP : ptR [a, b, c] = some (x, y, z) := by rw [ptR_three (by rw [numsV3, ha, hb0, hc0]), hpl]; rfl
          have A : Aside (resV a = some x ∧ resV b = some y ∧ resV c = some z ∧ ptR [a, b, c] = some (x, y, z)) := ⟨ha, hb0, hc0, hP⟩
          clear ha hb0 hc0 hP
          go_enter Tryd.func21, Tryd.ntmps21
          go_wp2_with (go_at_call 14; refine (SplitNI 4 (by decide) s _ (m := m) (HM.out _ _) HL.out.1 (by decide) (by decide)).mono ?_; rintro e w' ⟨q, N, rfl, hq, hq2, hR, hb⟩; simp at hq; have n1 : ¬ w.heap.size = q := (by omega); have n2 : ¬ q = w.heap.size := (by omega); have n3 : ¬ w.heap.size + 1 = q := (by omega); have n4 : ¬ q = w.heap.size + 1 := (by omega); rw [HL.out.2] at hR ⊢; obtain ⟨g1, g2, g3⟩ := rls3T hR; simp only [List.length_cons, List.length_nil, Nat.zero_add, Nat.reduceAdd]; obtain ⟨hc1, hf1⟩ := bcell hb; have hz1 : w.heap.size < w'.heap.size := (by have := hb.size; (try simp at this); omega); have hy1 : w.heap.size + 1 < w'.heap.size := (by have := hb.size; (try simp at this); omega); (try simp at hc1 hf1); have HB1 : Aside _ := hb; clear hb hR)
          refine wp_loop_rounds 4 ?_
          repeat any_goals (rw [rounds_succ]; go_wp2_with (first | (go_at_call 15; (with_reducible refine (ReadNumberI a _).mono ?_); rintro e w4 ⟨v4, rfl, hv, hb⟩; rw [A.out.1] at hv; (simp only [isR] at hv; subst hv); obtain ⟨hc4, hf4⟩ := bcell hb; have hz4 : w.heap.size < w4.heap.size := (by have := hb.size; (try simp at this); omega); have hy4 : w.heap.size + 1 < w4.heap.size := (by have := hb.size; (try simp at this); omega); have hx4 : q < w4.heap.size := (by have := hb.size; (try simp at this); omega); (try simp at hc4 hf4); have HB4 : Aside _ := hb; clear hb) | (go_at_call 15; (with_reducible refine (ReadNumberI b _).mono ?_); rintro e w5 ⟨v5, rfl, hv, hb⟩; rw [A.out.2.1] at hv; (simp only [isR] at hv; subst hv); obtain ⟨hc5, hf5⟩ := bcell hb; have hz5 : w.heap.size < w5.heap.size := (by have := hb.size; (try simp at this); omega); have hy5 : w.heap.size + 1 < w5.heap.size := (by have := hb.size; (try simp at this); omega); have hx5 : q < w5.heap.size := (by have := hb.size; (try simp at this); omega); (try simp at hc5 hf5); have HB5 : Aside _ := hb; clear hb) | (go_at_call 15; (with_reducible refine (ReadNumberI c _).mono ?_); rintro e w6 ⟨v6, rfl, hv, hb⟩; rw [A.out.2.2.1] at hv; (simp only [isR] at hv; subst hv); obtain ⟨hc6, hf6⟩ := bcell hb; have hz6 : w.heap.size < w6.heap.size := (by have := hb.size; (try simp at this); omega); have hy6 : w.heap.size + 1 < w6.heap.size := (by have := hb.size; (try simp at this); omega); have hx6 : q < w6.heap.size := (by have := hb.size; (try simp at this); omega); (try simp at hc6 hf6); have HB6 : Aside _ := hb; clear hb) | (go_at_call 39; refine (ValidPointI x y z _).mono ?_; rintro e w7 ⟨_, rfl, eb, hb⟩; (simp only [isB, hpl] at eb; subst eb); obtain ⟨hc7, hf7⟩ := bcell hb; have hz7 : w.heap.size < w7.heap.size := (by have := hb.size; (try simp at this); omega); have hy7 : w.heap.size + 1 < w7.heap.size := (by have := hb.size; (try simp at this); omega); (try simp at hc7 hf7); have HB7 : Aside _ := hb; clear hb)))
          all_goals simp [bodyPost, results, Tryd.results21, go_sem, *]
          rw [A.out.2.2.2]
          exact ⟨_, rfl, rfl, (below_set (below_set (below_set (below_step HB7.out (below_set (below_step HB6.out (below_set (below_step HB5.out (below_set (below_step HB4.out (below_step HB1.out (below_alloc (below_alloc (Below.refl _ _))))) (by first | exact Nat.le_refl _ | exact Nat.le_succ _))) (by first | exact Nat.le_refl _ | exact Nat.le_succ _))) (by first | exact Nat.le_refl _ | exact Nat.le_succ _))) (by first | exact Nat.le_refl _ | exact Nat.le_succ _)) (by first | exact Nat.le_refl _ | exact Nat.le_succ _)) (by first | exact Nat.le_refl _ | exact Nat.le_succ _))⟩
theorem ReadPointI (s : ByteArray) (w : World) {m : Int} (h5 : 1 < w.heap.size) (hm : w.cell? ⟨1, 0, none⟩ = some (.int .i64 m)) (hs : s.size ≤ 1048576) : Calls Tryd.prog 21 #[.string s] w (Gives (isRP (ptR (segsB s))) w) := by
  by_cases h : (segsB s).length = 3
  · obtain ⟨a, b, c, e⟩ := three_of h
    rw [e]; exact ReadPointI1 s w h5 hm hs e
  · exact ReadPointI0 s w h5 hm hs h
end Go.Proofs.YtljpggeogiabgaaDoor
