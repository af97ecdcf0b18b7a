/- Contracts: valid strokes. -/
import Derived.Test.YteckjpdfecgljaaMrkB
import Derived.Test.YteckjpdfecgljaaMrkO
namespace Go.Proofs.Yteckjpdfecgljaa
--## d
open Go.RowKit Go.Mem
set_option linter.unusedSimpArgs false
set_option linter.unusedVariables false
set_option maxRecDepth 20000
--## d
def okS (a b c d e : Int) : Bool := okM a b && okM c d && okD e
--## d
theorem rls_two {w : World} {g : Nat} {a b c d : Int} {k : Nat} (hg : g < w.heap.size) (h0 : w.cell? ⟨g, 0, none⟩ = some (.int .i16 a)) (h1 : w.cell? ⟨g, 1, none⟩ = some (.int .i16 b)) (h2 : w.cell? ⟨g, 2, none⟩ = some (.int .i16 c)) (h3 : w.cell? ⟨g, 3, none⟩ = some (.int .i16 d)) : Rls 2 w (.slice (some ⟨g, 0, none⟩) 2 k) (rM [(a, b), (c, d)]) := by
  refine ⟨some ⟨g, 0, none⟩, k, rfl, fun j r hr => ⟨⟨g, 0, none⟩, rfl, hg, fun i x hx => ?_⟩⟩
  match j, hr with
  | 0, hr =>
    simp [rM] at hr; subst hr
    match i, hx with
    | 0, hx => simp at hx; subst hx; exact h0
    | 1, hx => simp at hx; subst hx; exact h1
  | 1, hr =>
    simp [rM] at hr; subst hr
    match i, hx with
    | 0, hx => simp at hx; subst hx; exact h2
    | 1, hx => simp at hx; subst hx; exact h3
--## d
end Go.Proofs.Yteckjpdfecgljaa
