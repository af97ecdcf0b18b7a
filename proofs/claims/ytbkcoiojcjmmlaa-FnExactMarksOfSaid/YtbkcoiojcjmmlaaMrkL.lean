/- Contracts: lists of marks compared, written over, and looked at again. -/
import Derived.Test.YtbkcoiojcjmmlaaMrkK
import Derived.Deep.CutBlock
namespace Go.Proofs.Ytbkcoiojcjmmlaa
open Go.RowKit Go.Mem
set_option linter.unusedSimpArgs false
set_option linter.unusedVariables false
set_option maxRecDepth 20000 in
set_option maxHeartbeats 4000000 in
theorem eqMarkSA (v u : Value) (ms : List (Int × Int)) (w : World) (hP : Rls 2 w v (rM ms)) (hQ : Rls 2 w u (rM ms)) (hn : ms.length ≤ 1048576) :
    Calls Try.prog 16 #[v, u] w (Gives (isB true) w) := by
  have hP' := hP
  have hQ' := hQ
  obtain ⟨a, c, rfl, _⟩ := hP
  obtain ⟨a2, c2, rfl, _⟩ := hQ
  rw [rM_len] at *
  go_enter Try.func16, Try.ntmps16
  go_wp2_with fail
  go_loopg [5] ms.length (fun k s5 wr => ∃ (i : Nat), s5 = .int .i64 i ∧ i + k = ms.length ∧ Below w.heap.size w wr)
  · exact ⟨0, rfl, by omega, Below.refl _ _⟩
  · obtain ⟨i, rfl, hik, HB⟩ := hrel
    have B : Aside (i + gk = ms.length ∧ Below w.heap.size w wr ∧ ms.length ≤ 1048576) := ⟨hik, HB, hn⟩
    by_cases hi : i < ms.length
    · obtain ⟨m, hm⟩ : ∃ m, ms[i]? = some m := ⟨ms[i], List.getElem?_eq_getElem hi⟩
      obtain ⟨b, c3, e0, hbl, hcells⟩ := (hP'.below HB).at (rM_get hm)
      obtain ⟨b2, c4, e1, hbl2, hcells2⟩ := (hQ'.below HB).at (rM_get hm)
      rw [rM_len] at e0 e1
      cases e0
      cases e1
      have hi' : (i : Int) < (ms.length : Int) := by omega
      have hi0 : (0 : Int) ≤ (i : Int) := Int.natCast_nonneg _
      have hK : ∀ W, Bel wr W → W.cell? (b.add (i * 2)) = some (.int .i16 m.1) ∧ W.cell? ⟨(b.add (i * 2)).block, (b.add (i * 2)).off + 1, none⟩ = some (.int .i16 m.2) ∧ W.cell? (b2.add (i * 2)) = some (.int .i16 m.1) ∧ W.cell? ⟨(b2.add (i * 2)).block, (b2.add (i * 2)).off + 1, none⟩ = some (.int .i16 m.2) ∧ Bel wr W := fun W hW =>
        ⟨cells_later hW.out hbl hcells 0 _ rfl, cells_later hW.out hbl hcells 1 _ rfl, cells_later hW.out hbl2 hcells2 0 _ rfl, cells_later hW.out hbl2 hcells2 1 _ rfl, hW⟩
      clear hcells hcells2 hbl hbl2 hP' hQ' hm hik HB
      go_wp2_with fail
      go_region_held3 (fun W => W.cell? (b.add (i * 2)) = some (.int .i16 m.1) ∧ W.cell? ⟨(b.add (i * 2)).block, (b.add (i * 2)).off + 1, none⟩ = some (.int .i16 m.2) ∧ W.cell? (b2.add (i * 2)) = some (.int .i16 m.1) ∧ W.cell? ⟨(b2.add (i * 2)).block, (b2.add (i * 2)).off + 1, none⟩ = some (.int .i16 m.2) ∧ Bel wr W) (first | (with_reducible assumption) | (refine hK _ ?_; (repeat' (first | (with_reducible exact Bel.refl _) | (with_reducible assumption) | (with_reducible exact And.right (And.right (And.right (And.right (by assumption))))) | (with_reducible refine Bel.drew ?_))); done) | go_keep) (first | (go_at_call 35; refine (eqMarkA _ _ _).mono ?_; rintro e w2 ⟨_, rfl, rfl, hb⟩; have HBl := Bel.step (And.right (And.right (And.right (And.right (by assumption))))) hb))
      all_goals go_wp2_with fail
      all_goals
        obtain ⟨hik, HB, hn'⟩ := B.out
        go_roundg (gk - 1)
        · refine ⟨i + 1, ?_, by omega, below_step HBl.out HB⟩
          first
            | (congr 1; done)
            | (congr 1; unfold wrap64; omega)
        · omega
    · have hi' : ¬ ((i : Int) < (ms.length : Int)) := by omega
      clear hP' hQ'
      go_wp2_with fail
      simp [bodyPost, results, Try.results16, go_sem]
      exact ⟨_, rfl, rfl, HB⟩
/-- the numbers that are written over the marks -/
def ctr (n : Nat) : List Value := (List.range n).map fun q : Nat => .int .i16 ((q : Int) + 1)
theorem ctr_len (n : Nat) : (ctr n).length = n := by simp [ctr]
theorem ctr_get {n q : Nat} (h : q < n) : (ctr n)[q]? = some (.int .i16 ((q : Int) + 1)) := by
  unfold ctr
  rw [List.getElem?_map, List.getElem?_range h]
  rfl
theorem ctr_two (n : Nat) : ctr (n + 2) = ctr n ++ [.int .i16 ((n : Int) + 1), .int .i16 ((n : Int) + 1 + 1)] := by
  unfold ctr
  rw [List.range_succ, List.range_succ]
  simp
theorem splice2 (cs : List Value) (o : Nat) (x y : Value) (h : o + 2 ≤ cs.length) : (splice (splice cs o [x]) (o + 1) [y]).take (o + 2) = cs.take o ++ [x, y] := by
  apply List.ext_getElem?
  intro j
  by_cases hj : j < o + 2
  · rw [List.getElem?_take_of_lt hj, splice_get _ _ _ _ (by simp [splice_length]; omega), splice_get _ _ _ _ (by simp; omega)]
    by_cases h1 : j < o
    · rw [if_neg (by simp; omega), if_neg (by simp; omega), List.getElem?_append_left (by simp; omega), List.getElem?_take_of_lt h1]
    · by_cases h2 : j = o
      · subst h2
        rw [if_neg (by simp only [List.length_cons, List.length_nil]; omega), if_pos (by simp), List.getElem?_append_right (by rw [List.length_take]; omega)]
        simp [Nat.min_eq_left (show j ≤ cs.length by omega)]
      · have h3 : j = o + 1 := by omega
        subst h3
        rw [if_pos (by simp), List.getElem?_append_right (by simp; omega)]
        simp [Nat.min_eq_left (show o ≤ cs.length by omega)]
  · rw [List.getElem?_eq_none (by simp [splice_length]; omega), List.getElem?_eq_none (by simp; omega)]
set_option maxRecDepth 20000 in
set_option maxHeartbeats 4000000 in
theorem markMarkSA (g N : Nat) (cs : List Value) (w0 w : World) (hM : Mem w0 w [] [(g, cs)]) (hl : cs.length = 2 * N) (hn : N ≤ 1001) :
    Calls Try.prog 17 #[.slice (some ⟨g, 0, none⟩) N N, .int .i64 1] w (fun e w' => e = .returned (.int .i64 (2 * (N : Int) + 1)) ∧ Mem w0 w' [] [(g, ctr (2 * N))]) := by
  have HM : Aside (Mem w0 w [] [(g, cs)] ∧ cs.length = 2 * N) := ⟨hM, hl⟩
  clear hM hl
  go_enter Try.func17, Try.ntmps17
  go_wp2_with fail
  go_loopg [1, 5] N (fun k s1 s5 wr => ∃ (i : Nat) (cs : List Value), s5 = .int .i64 i ∧ s1 = .int .i64 (2 * (i : Int) + 1) ∧ i + k = N ∧ cs.length = 2 * N ∧ Mem w0 wr [] [(g, cs)] ∧ cs.take (2 * i) = ctr (2 * i))
  · exact ⟨0, cs, rfl, rfl, by omega, HM.out.2, HM.out.1, rfl⟩
  · obtain ⟨i, ds, rfl, rfl, hik, hl, hM, htk⟩ := hrel
    have B : Aside (i + gk = N ∧ ds.length = 2 * N ∧ Mem w0 wr [] [(g, ds)] ∧ ds.take (2 * i) = ctr (2 * i)) := ⟨hik, hl, hM, htk⟩
    by_cases hi : i < N
    · have hi' : (i : Int) < (N : Int) := by omega
      have hi0 : (0 : Int) ≤ (i : Int) := Int.natCast_nonneg _
      have hi9 : (i : Int) ≤ 1001 := by omega
      obtain ⟨v0, hv0⟩ : ∃ v, ds[i * 2]? = some v := ⟨ds[i * 2]'(by omega), List.getElem?_eq_getElem _⟩
      obtain ⟨v1, hv1⟩ : ∃ v, ds[i * 2 + 1]? = some v := ⟨ds[i * 2 + 1]'(by omega), List.getElem?_eq_getElem _⟩
      obtain ⟨q1, q3⟩ := Mem.cellAt hM (i * 2) v0 hv0
      obtain ⟨q2, q4⟩ := Mem.cellAt hM (i * 2 + 1) v1 hv1
      clear hik hl hM htk hv0 hv1
      go_wp2_with fail
      refine wp_loop_rounds 3 ?_
      rw [rounds_succ]
      go_wp2_with fail
      rw [rounds_succ]
      go_wp2_with fail
      rw [rounds_succ]
      go_wp2_with fail
      obtain ⟨hik, hl, hM, htk⟩ := B.out
      go_roundg (gk - 1)
      · refine ⟨i + 1, _, ?_, ?_, by omega, ?_, Mem.store1 (Mem.store1 hM (i * 2) _ (by omega)) (i * 2 + 1) _ (by rw [splice_length]; omega), ?_⟩
        · first
            | (congr 1; done)
            | (congr 1; unfold wrap64; omega)
        · first
            | (congr 1; done)
            | (congr 1; omega)
        · rw [splice_length, splice_length]; exact hl
        · rw [show 2 * (i + 1) = i * 2 + 2 by omega, splice2 _ _ _ _ (by omega), ctr_two, show i * 2 = 2 * i by omega, htk]
          simp
      · omega
    · have hi' : ¬ ((i : Int) < (N : Int)) := by omega
      obtain ⟨hik, hl, hM, htk⟩ := B.out
      have hie : i = N := by omega
      subst hie
      clear hik
      go_wp2_with fail
      simp [bodyPost, results, Try.results17, go_sem]
      have hcs : ds = ctr (2 * i) := by
        rw [List.take_of_length_le (by omega)] at htk
        exact htk
      rw [← hcs]; exact hM
set_option maxRecDepth 20000 in
set_option maxHeartbeats 4000000 in
theorem heldMarkSA (g N : Nat) (w0 w : World) (hM : Mem w0 w [] [(g, ctr (2 * N))]) (hn : N ≤ 1001) :
    Calls Try.prog 18 #[.slice (some ⟨g, 0, none⟩) N N, .int .i64 1] w (Gives (fun v => v = .int .i64 (2 * (N : Int) + 1)) w) := by
  have HM : Aside (Mem w0 w [] [(g, ctr (2 * N))]) := hM
  clear hM
  go_enter Try.func18, Try.ntmps18
  go_wp2_with fail
  go_loopg [1, 5] N (fun k s1 s5 wr => ∃ (i : Nat), s5 = .int .i64 i ∧ s1 = .int .i64 (2 * (i : Int) + 1) ∧ i + k = N ∧ Below w.heap.size w wr)
  · exact ⟨0, rfl, rfl, by omega, Below.refl _ _⟩
  · obtain ⟨i, rfl, rfl, hik, hB⟩ := hrel
    have B : Aside (i + gk = N ∧ Below w.heap.size w wr) := ⟨hik, hB⟩
    by_cases hi : i < N
    · have hi' : (i : Int) < (N : Int) := by omega
      have hi0 : (0 : Int) ≤ (i : Int) := Int.natCast_nonneg _
      have hi9 : (i : Int) ≤ 1001 := by omega
      obtain ⟨q1, _⟩ := Mem.cellAt (Mem.call HM.out hB) (i * 2) _ (ctr_get (by omega))
      obtain ⟨q2, _⟩ := Mem.cellAt (Mem.call HM.out hB) (i * 2 + 1) _ (ctr_get (by omega))
      have e1 : (((i * 2 : Nat) : Int) + 1) = 2 * (i : Int) + 1 := by omega
      have e2 : (((i * 2 + 1 : Nat) : Int) + 1) = 2 * (i : Int) + 1 + 1 := by omega
      rw [e1] at q1
      rw [e2] at q2
      clear hik hB e1 e2
      go_wp2_with fail
      refine wp_loop_rounds 3 ?_
      rw [rounds_succ]
      go_wp2_with fail
      rw [rounds_succ]
      go_wp2_with fail
      rw [rounds_succ]
      go_wp2_with fail
      obtain ⟨hik, hB⟩ := B.out
      go_roundg (gk - 1)
      · refine ⟨i + 1, ?_, ?_, by omega, hB⟩
        · first
            | (congr 1; done)
            | (congr 1; unfold wrap64; omega)
        · first
            | (congr 1; done)
            | (congr 1; omega)
      · omega
    · have hi' : ¬ ((i : Int) < (N : Int)) := by omega
      obtain ⟨hik, hB⟩ := B.out
      have hie : i = N := by omega
      subst hie
      clear hik
      go_wp2_with fail
      simp [bodyPost, results, Try.results18, go_sem]
      exact ⟨_, rfl, rfl, hB⟩
set_option maxRecDepth 20000 in
set_option maxHeartbeats 400000 in
theorem markMarkS0  (w : World) : Calls Try.prog 17 #[.slice none 0 0, .int .i64 1] w (Gives (fun v => v = .int .i64 1) w) := by
  go_enter Try.func17, Try.ntmps17
  go_wp2_with fail
  refine wp_loop_rounds 1 ?_
  rw [rounds_succ]
  go_wp2_with fail
  simp [bodyPost, results, Try.results17, go_sem]
  exact ⟨_, rfl, rfl, Below.refl _ _⟩
set_option maxRecDepth 20000 in
set_option maxHeartbeats 400000 in
theorem heldMarkS0  (w : World) : Calls Try.prog 18 #[.slice none 0 0, .int .i64 1] w (Gives (fun v => v = .int .i64 1) w) := by
  go_enter Try.func18, Try.ntmps18
  go_wp2_with fail
  refine wp_loop_rounds 1 ?_
  rw [rounds_succ]
  go_wp2_with fail
  simp [bodyPost, results, Try.results18, go_sem]
  exact ⟨_, rfl, rfl, Below.refl _ _⟩
theorem rls_nil (w : World) (a : Option Addr) (c : Nat) : Rls 2 w (.slice a 0 c) (rM []) := ⟨a, c, rfl, fun j r hr => by simp [rM] at hr⟩
end Go.Proofs.Ytbkcoiojcjmmlaa
