/- Contracts: marks and strokes compared. -/
import Derived.Test.YtbhbdpcefgledaaMrkO
namespace Go.Proofs.Ytbhbdpcefgledaa
--## d
open Go.RowKit
set_option linter.unusedSimpArgs false
set_option linter.unusedVariables false
set_option maxRecDepth 20000
--## d
set_option maxRecDepth 20000 in
set_option maxHeartbeats 1000000 in
theorem eqMarkA (x y : Int) (w : World) : Calls Try.prog 34 #[mk x y, mk x y] w (Gives (isB true) w) := by
  have hK : ∀ W, Bel ((w.alloc (.cells #[.int .i16 x, .int .i16 y] 45)).alloc (.cells #[.int .i16 x, .int .i16 y] 45)) W → W.cell? ⟨w.heap.size, 0, none⟩ = some (.int .i16 x) ∧ W.cell? ⟨w.heap.size, 1, none⟩ = some (.int .i16 y) ∧ W.cell? ⟨w.heap.size + 1, 0, none⟩ = some (.int .i16 x) ∧ W.cell? ⟨w.heap.size + 1, 1, none⟩ = some (.int .i16 y) ∧ Bel ((w.alloc (.cells #[.int .i16 x, .int .i16 y] 45)).alloc (.cells #[.int .i16 x, .int .i16 y] 45)) W := fun W hB => by
    have hcc : ∀ bk o, bk < w.heap.size + 1 + 1 → W.cell? ⟨bk, o, none⟩ = ((w.alloc (.cells #[.int .i16 x, .int .i16 y] 45)).alloc (.cells #[.int .i16 x, .int .i16 y] 45)).cell? ⟨bk, o, none⟩ := fun bk o h => (bcell (W := ((w.alloc (.cells #[.int .i16 x, .int .i16 y] 45)).alloc (.cells #[.int .i16 x, .int .i16 y] 45))) (w1 := W) hB.out).1 bk o (by simpa using h)
    refine ⟨?_, ?_, ?_, ?_, hB⟩
    all_goals
      rw [hcc _ _ (by omega)]
      simp [go_sem]
  have hL : ∀ W, Bel ((w.alloc (.cells #[.int .i16 x, .int .i16 y] 45)).alloc (.cells #[.int .i16 x, .int .i16 y] 45)) W → Below w.heap.size w W := fun W hB => below_step hB.out (below_alloc (below_alloc (Below.refl _ _)))
  go_enter Try.func34, Try.ntmps34
  go_wp2_with fail
  refine wp_loop_rounds 3 ?_
  all_goals rw [rounds_succ]
  all_goals go_wp2_with fail
  all_goals go_region_held3 (fun W => W.cell? ⟨w.heap.size, 0, none⟩ = some (.int .i16 x) ∧ W.cell? ⟨w.heap.size, 1, none⟩ = some (.int .i16 y) ∧ W.cell? ⟨w.heap.size + 1, 0, none⟩ = some (.int .i16 x) ∧ W.cell? ⟨w.heap.size + 1, 1, none⟩ = some (.int .i16 y) ∧ Bel ((w.alloc (.cells #[.int .i16 x, .int .i16 y] 45)).alloc (.cells #[.int .i16 x, .int .i16 y] 45)) W) (first | assumption | (refine hK _ ?_; (repeat' (first | exact Bel.refl _ | assumption | exact And.right (And.right (And.right (And.right (by assumption)))) | refine Bel.drew ?_ | refine Bel.alloc ?_ | refine Bel.set ?_ ?_ | refine Bel.step ?_ hb | (refine Bel.step ?_ (by assumption); exact And.right (And.right (And.right (And.right (by assumption))))) | (simp; done) | (simp; omega) | omega)); done) | go_keep) (first | fail)
  all_goals go_wp2_with fail
  all_goals rw [rounds_succ]
  all_goals go_wp2_with fail
  all_goals go_region_held3 (fun W => W.cell? ⟨w.heap.size, 0, none⟩ = some (.int .i16 x) ∧ W.cell? ⟨w.heap.size, 1, none⟩ = some (.int .i16 y) ∧ W.cell? ⟨w.heap.size + 1, 0, none⟩ = some (.int .i16 x) ∧ W.cell? ⟨w.heap.size + 1, 1, none⟩ = some (.int .i16 y) ∧ Bel ((w.alloc (.cells #[.int .i16 x, .int .i16 y] 45)).alloc (.cells #[.int .i16 x, .int .i16 y] 45)) W) (first | assumption | (refine hK _ ?_; (repeat' (first | exact Bel.refl _ | assumption | exact And.right (And.right (And.right (And.right (by assumption)))) | refine Bel.drew ?_ | refine Bel.alloc ?_ | refine Bel.set ?_ ?_ | refine Bel.step ?_ hb | (refine Bel.step ?_ (by assumption); exact And.right (And.right (And.right (And.right (by assumption))))) | (simp; done) | (simp; omega) | omega)); done) | go_keep) (first | fail)
  all_goals go_wp2_with fail
  all_goals rw [rounds_succ]
  all_goals go_wp2_with fail

  all_goals
    simp [bodyPost, results, Try.results34, go_sem]
    exact ⟨_, rfl, rfl, (by first | exact hL _ (And.right (And.right (And.right (And.right (by assumption))))) | exact hL _ (by repeat' (first | exact Bel.refl _ | assumption | exact And.right (And.right (And.right (And.right (by assumption)))) | refine Bel.drew ?_ | refine Bel.alloc ?_ | refine Bel.set ?_ ?_ | refine Bel.step ?_ hb | (refine Bel.step ?_ (by assumption); exact And.right (And.right (And.right (And.right (by assumption))))) | (simp; done) | (simp; omega) | omega)))⟩
--## d
set_option maxRecDepth 20000 in
set_option maxHeartbeats 2000000 in
theorem eqStrokeA (a b c d e : Int) (w : World) : Calls Try.prog 44 #[st a b c d e, st a b c d e] w (Gives (isB true) w) := by
  go_enter Try.func44, Try.ntmps44
  go_wp2_with (first | (go_at_call 34; refine (eqMarkA _ _ _).mono ?_; rintro e w' ⟨_, rfl, rfl, hb⟩; obtain ⟨hc, hf⟩ := bcell hb; (try simp at hc hf); have hs := hb.size; (try simp at hs); (try (have hz0 : w.heap.size < w'.heap.size := (by omega))); (try (have hz1 : w.heap.size + 1 < w'.heap.size := (by omega))); (try (have hz2 : w.heap.size + 1 + 1 < w'.heap.size := (by omega))); (try (have hz3 : w.heap.size + 1 + 1 + 1 < w'.heap.size := (by omega))); have HB := Lib.hid hb; clear hb hs))

  all_goals
    simp [bodyPost, results, Try.results44, go_sem]
    exact ⟨_, rfl, rfl, (by ((try simp only [Hid] at *); repeat' (first | (with_reducible exact Below.refl _ _) | (with_reducible assumption) | (with_reducible refine below_drewN ?_ _) | (with_reducible refine Below.drew ?_) | (with_reducible refine below_alloc ?_) | (with_reducible refine below_set ?_ ?_) | (refine below_step (by with_reducible assumption) ?_) | (simp; done) | (simp; omega) | omega)))⟩
--## d
end Go.Proofs.Ytbhbdpcefgledaa
