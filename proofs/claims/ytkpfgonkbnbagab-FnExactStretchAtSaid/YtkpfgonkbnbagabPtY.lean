/- Contracts: sizes of numbers. -/
import Derived.Test.YtkpfgonkbnbagabPtC
import Derived.Test.YtkpfgonkbnbagabSxE
import Derived.WalkMore
namespace Go.Proofs.Ytkpfgonkbnbagab
open Go.RowKit Go.Flo
set_option linter.unusedSimpArgs false
set_option linter.unusedVariables false
theorem sizeV_kcv (x : Nat) : sizeV (kcv .f32 x) = if (FloatKind.f32.format.order x 0 == some Ordering.lt) then kcv .f32 (Op.negFloat .f32 x) else kcv .f32 x := by
  rcases cases32 x with h | ⟨h, g⟩
  · rw [h, Sx.neg_cv, h]
    unfold sizeV
    split <;> rfl
  · rw [Sx.neg_cv, h]
    unfold sizeV
    have : vord FloatKind.f32.format (some x) (c32 0) = FloatKind.f32.format.order x 0 := by
      rw [← h]; exact ord32 x 0
    simp only [Option.map_some, this]
    split <;> rfl
--## l05Size 96
set_option maxHeartbeats 400000 in
theorem l05Size_any (x : Nat) (w : World) : Calls Try.prog 96 #[.float .f32 x] w (Same (isF (sizeV (kcv .f32 x))) w) := by
  rw [sizeV_kcv]
  have hu : ∀ w, (Op.unary UnOp.neg (Value.float FloatKind.f32 x)).run Try.prog w = .ok (.float .f32 (Op.negFloat .f32 x)) w := fun w => rfl
  cases h0 : (FloatKind.f32.format.order x 0 == some Ordering.lt)
  · go_enter Try.func96, Try.ntmps96
    go_wp2
    all_goals simp [bodyPost, results, Try.results96, go_sem]
    all_goals exact ⟨_, rfl, ⟨_, rfl, rfl⟩, rfl⟩
  · go_enter Try.func96, Try.ntmps96
    go_wp2
    simp [bodyPost, results, Try.results96, go_sem]
    exact ⟨_, rfl, ⟨_, rfl, rfl⟩, rfl⟩
--## end
end Go.Proofs.Ytkpfgonkbnbagab
