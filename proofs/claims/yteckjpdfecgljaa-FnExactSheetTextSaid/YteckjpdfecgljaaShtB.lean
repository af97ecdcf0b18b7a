/- Contracts: strokes are drawn on sheets (both sides). -/
import Derived.Test.YteckjpdfecgljaaShtA
import Derived.Test.YteckjpdfecgljaaMrkM
import Derived.Test.YteckjpdfecgljaaWayA
namespace Go.Proofs.Yteckjpdfecgljaa
--## d
open Go.RowKit Go.Mem
set_option linter.unusedSimpArgs false
set_option linter.unusedVariables false
set_option maxRecDepth 20000
--## d
def inkN (put : List Int → Bool → Int → Int → List Int) (d : Int) (ink : Bool) (zs : List Int) (ms : List (Int × Int)) : Nat → List Int
  | 0 => zs
  | k + 1 => if drawnF d k then put (inkN put d ink zs ms k) ink (ms.getD k (0, 0)).1 (ms.getD k (0, 0)).2 else inkN put d ink zs ms k
--## d
def msK (s : S5) : List (Int × Int) := marksN s.1 s.2.1 s.2.2.1 s.2.2.2.1 (distF s.1 s.2.1 s.2.2.1 s.2.2.2.1)
--## d
def strokeF (put : List Int → Bool → Int → Int → List Int) (ink : Bool) (zs : List Int) (s : S5) : List Int := inkN put s.2.2.2.2 ink zs (msK s) (msK s).length
--## d
theorem inkN_len {put : List Int → Bool → Int → Int → List Int} (hp : ∀ zs ink x y, (put zs ink x y).length = zs.length) (d : Int) (ink : Bool) (zs : List Int) (ms : List (Int × Int)) : ∀ k, (inkN put d ink zs ms k).length = zs.length
  | 0 => rfl
  | k + 1 => by
    unfold inkN
    split
    · rw [hp, inkN_len hp d ink zs ms k]
    · exact inkN_len hp d ink zs ms k
--## d
theorem strokeF_len {put : List Int → Bool → Int → Int → List Int} (hp : ∀ zs ink x y, (put zs ink x y).length = zs.length) (ink : Bool) (zs : List Int) (s : S5) : (strokeF put ink zs s).length = zs.length := inkN_len hp _ _ _ _ _
--## d
theorem Mem.swap2 {w W : World} {r l : Blocks} {x y : Nat × List Value} (h : Mem w W r (x :: y :: l)) : Mem w W r (y :: x :: l) := by
  refine ⟨h.below, h.old, fun z hz => h.new z (by simp at hz ⊢; rcases hz with h | h | h <;> simp [h]), ?_⟩
  have := h.apart
  simp only [List.map_cons, List.nodup_cons, List.mem_cons, not_or] at this ⊢
  exact ⟨⟨fun e => this.1.1 e.symm, this.2.1⟩, this.1.2, this.2.2⟩
--## d
theorem okM_bd6 {x y : Int} (h : okM x y = true) : (-500 ≤ x ∧ x ≤ 500) ∧ (-500 ≤ y ∧ y ≤ 500) := by
  simp [okM, inB] at h
  omega
--## d
theorem msK_len {s : S5} (h : okK s = true) : (msK s).length ≤ 1001 := by
  unfold okK okS at h
  simp only [Bool.and_eq_true] at h
  have h1 := okM_bd6 h.1.1
  have h2 := okM_bd6 h.1.2
  have := dist_bd h1.1 h1.2 h2.1 h2.2
  unfold msK
  rw [marksN_len]
  omega
--## d
end Go.Proofs.Yteckjpdfecgljaa
