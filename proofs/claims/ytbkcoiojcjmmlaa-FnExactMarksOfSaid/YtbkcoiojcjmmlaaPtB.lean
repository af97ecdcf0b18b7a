/- Contracts of the tests of numbers and points. -/
import Derived.Test.YtbkcoiojcjmmlaaPtA
namespace Go.Proofs.Ytbkcoiojcjmmlaa
open Go.RowKit Go.Flo
set_option linter.unusedSimpArgs false
set_option linter.unusedVariables false

--## IsPlainI
set_option maxHeartbeats 400000 in
theorem IsPlainI (x : Nat) (w : World) :
    Calls Try.prog 57 #[.float .f32 x] w (Same (isB (plainV (kcv .f32 x))) w) := by
  go_enter Try.func57, Try.ntmps57
  go_wp2
  all_goals
    simp [bodyPost, results, Try.results57, go_sem]
    refine ⟨_, rfl, ?_, rfl⟩
    simp_all [lt, le, gt, ge, eqf, plainV, finV, c32, isB, ord32]

--## l01Plain_any
set_option maxHeartbeats 400000 in
theorem l01Plain_any (x : Nat) (w : World) :
    Calls Try.prog 69 #[.float .f32 x] w (Same (isB (plainV (kcv .f32 x))) w) := by
  go_enter Try.func69, Try.ntmps69
  go_wp2
  all_goals
    simp [bodyPost, results, Try.results69, go_sem]
    refine ⟨_, rfl, ?_, rfl⟩
    simp_all [lt, le, gt, ge, eqf, plainV, finV, c32, isB, ord32]

--## end
end Go.Proofs.Ytbkcoiojcjmmlaa
