/- Contracts of the tests of numbers and points. -/
import Derived.Test.YtpaangcbcknhlaaPtA
namespace Go.Proofs.Ytpaangcbcknhlaa
open Go.RowKit Go.Flo
set_option linter.unusedSimpArgs false
set_option linter.unusedVariables false

--## IsPlainI
set_option maxHeartbeats 400000 in
theorem IsPlainI (x : Nat) (w : World) :
    Calls Try.prog 91 #[.float .f32 x] w (Same (isB (plainV (kcv .f32 x))) w) := by
  go_enter Try.func91, Try.ntmps91
  go_wp2
  all_goals
    simp [bodyPost, results, Try.results91, go_sem]
    refine ⟨_, rfl, ?_, rfl⟩
    simp_all [lt, le, gt, ge, eqf, plainV, finV, c32, isB, ord32]

--## l01Plain_any
set_option maxHeartbeats 400000 in
theorem l01Plain_any (x : Nat) (w : World) :
    Calls Try.prog 124 #[.float .f32 x] w (Same (isB (plainV (kcv .f32 x))) w) := by
  go_enter Try.func124, Try.ntmps124
  go_wp2
  all_goals
    simp [bodyPost, results, Try.results124, go_sem]
    refine ⟨_, rfl, ?_, rfl⟩
    simp_all [lt, le, gt, ge, eqf, plainV, finV, c32, isB, ord32]

--## end
end Go.Proofs.Ytpaangcbcknhlaa
