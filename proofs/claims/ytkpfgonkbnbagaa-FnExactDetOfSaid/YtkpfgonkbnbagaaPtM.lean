/- Contracts: the bits of a point, sameness. -/
import Derived.Test.YtkpfgonkbnbagaaPtC
import Derived.Test.YtkpfgonkbnbagaaFlw
namespace Go.Proofs.Ytkpfgonkbnbagaa
open Go.RowKit Go.Flo Go.Mem Go.Inv
set_option linter.unusedSimpArgs false
set_option linter.unusedVariables false

--## samePt
def samePt (p q : V3) : Bool := bitsV p.1 == bitsV q.1 && bitsV p.2.1 == bitsV q.2.1 && bitsV p.2.2 == bitsV q.2.2
theorem intBeq (a b : Nat) : ((a : Int) == (b : Int)) = (a == b) := by
  rw [Bool.eq_iff_iff]; simp; omega
--## l01Same 77
theorem same_order {x : Nat} : FloatKind.f32.format.order x x = if (kcv .f32 x).isNone then none else some .eq := by
  rcases cv_cases FloatKind.f32.format x with ⟨h1, g1⟩ | ⟨h1, g1⟩
  · rw [order_nan_left (good .f32) g1]; unfold kcv; rw [h1]; rfl
  · rw [order_refl (good .f32) g1]; unfold kcv; rw [h1]; rfl
theorem bitsV_none {x : V} (h : x.isNone = true) : bitsV x = 2143289344 := by cases x <;> simp_all [bitsV]
theorem bitsV_some {x : Nat} (h : (kcv .f32 x).isNone = false) : bitsV (kcv .f32 x) = x ∧ x ≠ 2143289344 := by
  refine ⟨bitsV_of h, ?_⟩
  rintro rfl
  rw [show kcv .f32 2143289344 = none by kernel_rfl] at h; cases h
set_option maxHeartbeats 400000 in
theorem l01Same_any (x y : Nat) (w : World) :
    Calls Try.prog 77 #[.float .f32 x, .float .f32 y] w (Same (isB (bitsV (kcv .f32 x) == bitsV (kcv .f32 y))) w) := by
  have hb := bits32
  have ox := same_order (x := x); have oy := same_order (x := y)
  cases hx : (kcv .f32 x).isNone <;> cases hy : (kcv .f32 y).isNone
  all_goals
    rw [hx] at ox; rw [hy] at oy
    go_enter Try.func77, Try.ntmps77
    go_wp2
  all_goals
    simp [bodyPost, results, Try.results77, go_sem]
    refine ⟨_, rfl, ?_, rfl⟩
    unfold isB
    first
      | (rw [(bitsV_some hx).1, (bitsV_some hy).1, intBeq]; done)
      | (rw [(bitsV_some hx).1, bitsV_none hy]; have h := (bitsV_some hx).2; simp [h]; done)
      | (rw [(bitsV_some hy).1, bitsV_none hx]; have h := (bitsV_some hy).2; simp [Ne.symm h]; done)
      | (rw [bitsV_none hx, bitsV_none hy]; rfl)
--## end
end Go.Proofs.Ytkpfgonkbnbagaa
