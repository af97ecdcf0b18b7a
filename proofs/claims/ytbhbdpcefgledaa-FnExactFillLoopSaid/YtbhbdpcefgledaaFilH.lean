/- Contracts: lists of marks compared by the law. -/
import Derived.Test.YtbhbdpcefgledaaMrkF
import Derived.Test.YtbhbdpcefgledaaMrkO
namespace Go.Proofs.Ytbhbdpcefgledaa
--## d
open Go.RowKit Go.Mem
set_option linter.unusedSimpArgs false
set_option linter.unusedVariables false
set_option maxRecDepth 20000
--## d
set_option maxRecDepth 20000 in
set_option maxHeartbeats 1000000 in
theorem eqMarkA (x y : Int) (w : World) : Calls Try.prog 34 #[mk x y, mk x y] w (Gives (isB true) w) := by
  have hK : ∀ W, Bel ((w.alloc (.cells #[.int .i16 x, .int .i16 y] 45)).alloc (.cells #[.int .i16 x, .int .i16 y] 45)) W → W.cell? ⟨w.heap.size, 0, none⟩ = some (.int .i16 x) ∧ W.cell? ⟨w.heap.size, 1, none⟩ = some (.int .i16 y) ∧ W.cell? ⟨w.heap.size + 1, 0, none⟩ = some (.int .i16 x) ∧ W.cell? ⟨w.heap.size + 1, 1, none⟩ = some (.int .i16 y) ∧ Bel ((w.alloc (.cells #[.int .i16 x, .int .i16 y] 45)).alloc (.cells #[.int .i16 x, .int .i16 y] 45)) W := fun W hB => by
    have hcc : ∀ bk o, bk < w.heap.size + 1 + 1 → W.cell? ⟨bk, o, none⟩ = ((w.alloc (.cells #[.int .i16 x, .int .i16 y] 45)).alloc (.cells #[.int .i16 x, .int .i16 y] 45)).cell? ⟨bk, o, none⟩ := fun bk o h => (bcell (W := ((w.alloc (.cells #[.int .i16 x, .int .i16 y] 45)).alloc (.cells #[.int .i16 x, .int .i16 y] 45))) (w1 := W) hB.out).1 bk o (by simpa using h)
    refine ⟨?_, ?_, ?_, ?_, hB⟩
    all_goals
      rw [hcc _ _ (by omega)]
      simp [go_sem]
  have hL : ∀ W, Bel ((w.alloc (.cells #[.int .i16 x, .int .i16 y] 45)).alloc (.cells #[.int .i16 x, .int .i16 y] 45)) W → Below w.heap.size w W := fun W hB => below_step hB.out (below_alloc (below_alloc (Below.refl _ _)))
  go_enter Try.func34, Try.ntmps34
  go_wp2_with fail
  refine wp_loop_rounds 3 ?_
  all_goals rw [rounds_succ]
  all_goals go_wp2_with fail
  all_goals go_region_held3 (fun W => W.cell? ⟨w.heap.size, 0, none⟩ = some (.int .i16 x) ∧ W.cell? ⟨w.heap.size, 1, none⟩ = some (.int .i16 y) ∧ W.cell? ⟨w.heap.size + 1, 0, none⟩ = some (.int .i16 x) ∧ W.cell? ⟨w.heap.size + 1, 1, none⟩ = some (.int .i16 y) ∧ Bel ((w.alloc (.cells #[.int .i16 x, .int .i16 y] 45)).alloc (.cells #[.int .i16 x, .int .i16 y] 45)) W) (first | assumption | (refine hK _ ?_; (repeat' (first | exact Bel.refl _ | assumption | exact And.right (And.right (And.right (And.right (by assumption)))) | refine Bel.drew ?_ | refine Bel.alloc ?_ | refine Bel.set ?_ ?_ | refine Bel.step ?_ hb | (refine Bel.step ?_ (by assumption); exact And.right (And.right (And.right (And.right (by assumption))))) | (simp; done) | (simp; omega) | omega)); done) | go_keep) (first | fail)
  all_goals go_wp2_with fail
  all_goals rw [rounds_succ]
  all_goals go_wp2_with fail
  all_goals go_region_held3 (fun W => W.cell? ⟨w.heap.size, 0, none⟩ = some (.int .i16 x) ∧ W.cell? ⟨w.heap.size, 1, none⟩ = some (.int .i16 y) ∧ W.cell? ⟨w.heap.size + 1, 0, none⟩ = some (.int .i16 x) ∧ W.cell? ⟨w.heap.size + 1, 1, none⟩ = some (.int .i16 y) ∧ Bel ((w.alloc (.cells #[.int .i16 x, .int .i16 y] 45)).alloc (.cells #[.int .i16 x, .int .i16 y] 45)) W) (first | assumption | (refine hK _ ?_; (repeat' (first | exact Bel.refl _ | assumption | exact And.right (And.right (And.right (And.right (by assumption)))) | refine Bel.drew ?_ | refine Bel.alloc ?_ | refine Bel.set ?_ ?_ | refine Bel.step ?_ hb | (refine Bel.step ?_ (by assumption); exact And.right (And.right (And.right (And.right (by assumption))))) | (simp; done) | (simp; omega) | omega)); done) | go_keep) (first | fail)
  all_goals go_wp2_with fail
  all_goals rw [rounds_succ]
  all_goals go_wp2_with fail

  all_goals
    simp [bodyPost, results, Try.results34, go_sem]
    exact ⟨_, rfl, rfl, (by first | exact hL _ (And.right (And.right (And.right (And.right (by assumption))))) | exact hL _ (by repeat' (first | exact Bel.refl _ | assumption | exact And.right (And.right (And.right (And.right (by assumption)))) | refine Bel.drew ?_ | refine Bel.alloc ?_ | refine Bel.set ?_ ?_ | refine Bel.step ?_ hb | (refine Bel.step ?_ (by assumption); exact And.right (And.right (And.right (And.right (by assumption))))) | (simp; done) | (simp; omega) | omega)))⟩
--## d
set_option maxRecDepth 20000 in
set_option maxHeartbeats 4000000 in
theorem eqMarkSA (v u : Value) (ms : List (Int × Int)) (w : World) (hP : Rls 2 w v (rM ms)) (hQ : Rls 2 w u (rM ms)) (hn : ms.length ≤ 1048576) :
    Calls Try.prog 12 #[v, u] w (Gives (isB true) w) := by
  have hP' := hP
  have hQ' := hQ
  obtain ⟨a, c, rfl, _⟩ := hP
  obtain ⟨a2, c2, rfl, _⟩ := hQ
  rw [rM_len] at *
  go_enter Try.func12, Try.ntmps12
  go_wp2_with fail
  go_loopg [5] ms.length (fun k s5 wr => ∃ (i : Nat), s5 = .int .i64 i ∧ i + k = ms.length ∧ Below w.heap.size w wr)
  · exact ⟨0, rfl, by omega, Below.refl _ _⟩
  · obtain ⟨i, rfl, hik, HB⟩ := hrel
    have B : Aside (i + gk = ms.length ∧ Below w.heap.size w wr ∧ ms.length ≤ 1048576) := ⟨hik, HB, hn⟩
    by_cases hi : i < ms.length
    · obtain ⟨m, hm⟩ : ∃ m, ms[i]? = some m := ⟨ms[i], List.getElem?_eq_getElem hi⟩
      obtain ⟨b, c3, e0, hbl, hcells⟩ := (hP'.below HB).at (rM_get hm)
      obtain ⟨b2, c4, e1, hbl2, hcells2⟩ := (hQ'.below HB).at (rM_get hm)
      rw [rM_len] at e0 e1
      cases e0
      cases e1
      have hi' : (i : Int) < (ms.length : Int) := by omega
      have hi0 : (0 : Int) ≤ (i : Int) := Int.natCast_nonneg _
      have hK : ∀ W, Bel wr W → W.cell? (b.add (i * 2)) = some (.int .i16 m.1) ∧ W.cell? ⟨(b.add (i * 2)).block, (b.add (i * 2)).off + 1, none⟩ = some (.int .i16 m.2) ∧ W.cell? (b2.add (i * 2)) = some (.int .i16 m.1) ∧ W.cell? ⟨(b2.add (i * 2)).block, (b2.add (i * 2)).off + 1, none⟩ = some (.int .i16 m.2) ∧ Bel wr W := fun W hW =>
        ⟨cells_later hW.out hbl hcells 0 _ rfl, cells_later hW.out hbl hcells 1 _ rfl, cells_later hW.out hbl2 hcells2 0 _ rfl, cells_later hW.out hbl2 hcells2 1 _ rfl, hW⟩
      clear hcells hcells2 hbl hbl2 hP' hQ' hm hik HB
      go_wp2_with fail
      go_region_held3 (fun W => W.cell? (b.add (i * 2)) = some (.int .i16 m.1) ∧ W.cell? ⟨(b.add (i * 2)).block, (b.add (i * 2)).off + 1, none⟩ = some (.int .i16 m.2) ∧ W.cell? (b2.add (i * 2)) = some (.int .i16 m.1) ∧ W.cell? ⟨(b2.add (i * 2)).block, (b2.add (i * 2)).off + 1, none⟩ = some (.int .i16 m.2) ∧ Bel wr W) (first | (with_reducible assumption) | (refine hK _ ?_; (repeat' (first | (with_reducible exact Bel.refl _) | (with_reducible assumption) | (with_reducible exact And.right (And.right (And.right (And.right (by assumption))))) | (with_reducible refine Bel.drew ?_))); done) | go_keep) (first | (go_at_call 34; refine (eqMarkA _ _ _).mono ?_; rintro e w2 ⟨_, rfl, rfl, hb⟩; have HBl := Bel.step (And.right (And.right (And.right (And.right (by assumption))))) hb))
      all_goals go_wp2_with fail
      all_goals
        obtain ⟨hik, HB, hn'⟩ := B.out
        go_roundg (gk - 1)
        · refine ⟨i + 1, ?_, by omega, below_step HBl.out HB⟩
          first
            | (congr 1; done)
            | (congr 1; unfold wrap64; omega)
        · omega
    · have hi' : ¬ ((i : Int) < (ms.length : Int)) := by omega
      clear hP' hQ'
      go_wp2_with fail
      simp [bodyPost, results, Try.results12, go_sem]
      exact ⟨_, rfl, rfl, HB⟩
end Go.Proofs.Ytbhbdpcefgledaa
