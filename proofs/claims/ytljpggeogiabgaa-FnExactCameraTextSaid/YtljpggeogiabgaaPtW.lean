/- Contracts: what is small (NaN too), rows of maps. -/
import Derived.Test.YtljpggeogiabgaaPtC
namespace Go.Proofs.Ytljpggeogiabgaa
open Go.RowKit Go.Flo
set_option linter.unusedSimpArgs false
set_option linter.unusedVariables false

--## isSmall_true 27
set_option maxHeartbeats 400000 in
theorem isSmall_true (x : Nat) (h : (kcv .f32 x).isNone = true) (w : World) :
    Calls Try.prog 27 #[.float .f32 x] w (Drew (isB (smallS (kcv .f32 x))) w) := by
  have HN := Lib.hid h; clear h
  go_enter Try.func27, Try.ntmps27
  go_wp2_with (first | (refine wpList_widen rfl _ _ _ rfl _ rfl (by kernel_rfl) (by kernel_rfl) ?_; intro q n hw) | (go_at_call 41; refine (IsNaN_any _ _).mono ?_; rintro e w' ⟨_, rfl, rfl, rfl⟩; rw [hw.out.1, wide_isNone, HN.out]))
  simp [bodyPost, results, Try.results27, go_sem]
  refine ⟨_, _, rfl, ?_, rfl⟩
  unfold isB
  rw [Option.isNone_iff_eq_none.1 HN.out, smallS_none]

--## isSmall_false 27
set_option maxHeartbeats 400000 in
theorem isSmall_false (x : Nat) (h : (kcv .f32 x).isNone = false) (w : World) :
    Calls Try.prog 27 #[.float .f32 x] w (Drew (isB (smallS (kcv .f32 x))) w) := by
  have HN := Lib.hid h; clear h
  go_enter Try.func27, Try.ntmps27
  go_wp2_with (first | (refine wpList_widen rfl _ _ _ rfl _ rfl (by kernel_rfl) (by kernel_rfl) ?_; intro q n hw) | (go_at_call 41; refine (IsNaN_any _ _).mono ?_; rintro e w' ⟨_, rfl, rfl, rfl⟩; rw [hw.out.1, wide_isNone, HN.out]) | (go_at_call 42; refine (isTooSmall_any _ _).mono ?_; rintro e w' ⟨_, n2, rfl, rfl, rfl⟩))
  simp [bodyPost, results, Try.results27, go_sem]
  refine ⟨_, _, rfl, ?_, rfl⟩
  unfold isB
  rcases cases32 x with h1 | ⟨h1, hb⟩
  · have := HN.out; rw [h1] at this; cases this
  · rw [h1, small_eq (by assumption)]

--## isSmall any 27
theorem isSmall_any (x : Nat) (w : World) : Calls Try.prog 27 #[.float .f32 x] w (Drew (isB (smallS (kcv .f32 x))) w) := by
  cases h : (kcv .f32 x).isNone
  · exact isSmall_false x h w
  · exact isSmall_true x h w
--## end
end Go.Proofs.Ytljpggeogiabgaa
