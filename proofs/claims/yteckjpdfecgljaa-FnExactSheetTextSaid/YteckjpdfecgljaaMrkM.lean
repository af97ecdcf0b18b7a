/- Contracts: the marks of a stroke as the model makes them, with the block that they lie in. -/
import Derived.Test.YteckjpdfecgljaaMrkF
namespace Go.Proofs.Yteckjpdfecgljaa
--## d
open Go.RowKit Go.Mem
set_option linter.unusedSimpArgs false
set_option linter.unusedVariables false
set_option maxRecDepth 20000
--## d
theorem owns_mem {w0 w : World} {base E m n : Nat} {v : Value} {xs : List Value} (h : w.ownsRow base E m v n xs) (hx : xs ≠ []) (hb : w0.heap.size ≤ base) (hB : Below w0.heap.size w0 w) : ∃ g c, v = .slice (some ⟨g, 0, none⟩) n c ∧ Mem w0 w [] [(g, xs)] := by
  have hc := fun g hg => h.cells (g := g) hg
  obtain ⟨hl, h'⟩ := h
  rcases h' with ⟨rfl, rfl⟩ | ⟨g, cap, cur, rfl, hbg, hg, h1, h2, h3, h4⟩
  · exact absurd (List.eq_nil_of_length_eq_zero (by rw [hl]; simp)) hx
  · refine ⟨g, cap, rfl, hB, fun _ h => (by cases h), fun x hx => ?_, by simp⟩
    obtain rfl : x = (g, xs) := by simpa using hx
    refine ⟨Nat.le_trans hb hbg, (Array.getElem?_eq_some_iff.1 hg).1, fun j v hv => (by have := hc g rfl j v hv; rw [Addr.add_mid] at this; exact this), fun j hj => ⟨?_, ?_⟩⟩
    · have := hc g rfl j xs[j] (List.getElem?_eq_getElem hj)
      rw [Addr.add_mid] at this
      rw [this]
      rfl
    · simp [World.frozen?, hg]
--## d
end Go.Proofs.Yteckjpdfecgljaa
