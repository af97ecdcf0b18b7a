/- Arguments of a law, opened: lists of strokes, marks, numbers, truths. -/
import Derived.Test.YteckjpdfecgljaaWayA
import Derived.Test.YteckjpdfecgljaaLskB
import Derived.Test.YteckjpdfecgljaaLskC
import Derived.Test.YteckjpdfecgljaaOpn
namespace Go.Proofs.Yteckjpdfecgljaa
--## d
open Go.ChangeShapes Go.WideShapes Go.ChangeAt Go.RowKit Go.Flo Go.Mem
set_option linter.unusedSimpArgs false
set_option linter.unusedVariables false
set_option maxRecDepth 20000
--## d
theorem rows_map {α : Type} {f : α → List Value} {W : α → Prop} : ∀ {rs : List (List Value)}, (∀ r ∈ rs, ∃ z, r = f z ∧ W z) → ∃ zs : List α, rs = zs.map f ∧ ∀ z ∈ zs, W z
  | [], _ => ⟨[], rfl, fun z hz => (by cases hz)⟩
  | r :: rs, h => by
    obtain ⟨z, hz, hw⟩ := h r (by simp)
    obtain ⟨zs, hzs, hws⟩ := rows_map (rs := rs) (fun x hx => h x (by simp [hx]))
    refine ⟨z :: zs, by rw [hz, hzs]; rfl, fun y hy => ?_⟩
    rcases List.mem_cons.1 hy with rfl | hy
    · exact hw
    · exact hws y hy
--## d
section
--## d
variable {H : Type} {enc : TypeId × Value → H} {w : World} {base : Nat} {spare : Nat → Bool} {held : Bool}
--## d
theorem cell_bool {P : Program} {n : Nat} {e : TypeId} {c : Value} {y : DataW H × List MemPlace} (he : P.underlying e = some .bool) (h : DataW.trod enc P w base spare held n e [c] = some y) : ∃ b, c = .bool b := by
  cases n with
  | zero => simp [DataW.trod] at h
  | succ n =>
    unfold DataW.trod at h
    simp only [he] at h
    cases c <;> simp_all
--## d
end
--## d
end Go.Proofs.Yteckjpdfecgljaa
