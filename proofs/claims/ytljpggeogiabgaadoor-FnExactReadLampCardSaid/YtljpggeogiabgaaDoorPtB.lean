/- Contracts of the tests of numbers and points. -/
import Derived.Test.YtljpggeogiabgaaDoorPtA
namespace Go.Proofs.YtljpggeogiabgaaDoor
open Go.RowKit Go.Flo
set_option linter.unusedSimpArgs false
set_option linter.unusedVariables false

--## IsPlainI
set_option maxHeartbeats 400000 in
theorem IsPlainI (x : Nat) (w : World) :
    Calls Tryd.prog 57 #[.float .f32 x] w (Same (isB (plainV (kcv .f32 x))) w) := by
  go_enter Tryd.func57, Tryd.ntmps57
  go_wp2
  all_goals
    simp [bodyPost, results, Tryd.results57, go_sem]
    refine ⟨_, rfl, ?_, rfl⟩
    simp_all [lt, le, gt, ge, eqf, plainV, finV, c32, isB, ord32]

--## l01Plain_any
set_option maxHeartbeats 400000 in
theorem l01Plain_any (x : Nat) (w : World) :
    Calls Tryd.prog 42 #[.float .f32 x] w (Same (isB (plainV (kcv .f32 x))) w) := by
  go_enter Tryd.func42, Tryd.ntmps42
  go_wp2
  all_goals
    simp [bodyPost, results, Tryd.results42, go_sem]
    refine ⟨_, rfl, ?_, rfl⟩
    simp_all [lt, le, gt, ge, eqf, plainV, finV, c32, isB, ord32]

--## ValidPointI
set_option maxHeartbeats 400000 in
theorem ValidPointI (x0 x1 x2 : Nat) (w : World) :
    Calls Tryd.prog 39 #[.agg #[.float .f32 x0, .float .f32 x1, .float .f32 x2]] w (Gives (isB (plainP (cp x0 x1 x2))) w) := by
  cases h0 : plainV (kcv .f32 x0) <;> cases h1 : plainV (kcv .f32 x1)
  all_goals
    go_enter Tryd.func39, Tryd.ntmps39
    go_wp2_with (first | (go_at_call 57; refine (IsPlainI _ _).mono ?_; rintro e w' ⟨_, rfl, rfl, rfl⟩))
  all_goals
    simp [bodyPost, results, Tryd.results39, go_sem]
    refine ⟨_, rfl, ?_, by ((try simp only [Hid] at *); repeat' (first | (with_reducible exact Below.refl _ _) | (with_reducible refine below_drewN ?_ _) | (with_reducible refine Below.drew ?_) | (with_reducible refine below_alloc ?_) | (with_reducible refine below_set ?_ ?_) | (refine below_step (by with_reducible assumption) ?_) | (simp; done) | (simp; omega) | omega))⟩
    simp_all [isB, plainP, cp]

--## l01Point_any
set_option maxHeartbeats 400000 in
theorem l01Point_any (x0 x1 x2 : Nat) (w : World) :
    Calls Tryd.prog 53 #[.agg #[.float .f32 x0, .float .f32 x1, .float .f32 x2]] w (Gives (isB (plainP (cp x0 x1 x2))) w) := by
  cases h0 : plainV (kcv .f32 x0) <;> cases h1 : plainV (kcv .f32 x1)
  all_goals
    go_enter Tryd.func53, Tryd.ntmps53
    go_wp2_with (first | (go_at_call 42; refine (l01Plain_any _ _).mono ?_; rintro e w' ⟨_, rfl, rfl, rfl⟩))
  all_goals
    simp [bodyPost, results, Tryd.results53, go_sem]
    refine ⟨_, rfl, ?_, by ((try simp only [Hid] at *); repeat' (first | (with_reducible exact Below.refl _ _) | (with_reducible refine below_drewN ?_ _) | (with_reducible refine Below.drew ?_) | (with_reducible refine below_alloc ?_) | (with_reducible refine below_set ?_ ?_) | (refine below_step (by with_reducible assumption) ?_) | (simp; done) | (simp; omega) | omega))⟩
    simp_all [isB, plainP, cp]

--## end
end Go.Proofs.YtljpggeogiabgaaDoor
