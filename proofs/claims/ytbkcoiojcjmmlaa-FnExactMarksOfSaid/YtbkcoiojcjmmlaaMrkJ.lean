/- A block of five cells that was made ahead of calls: it is still as it was. -/
import Derived.Test.YtbkcoiojcjmmlaaMrkI
namespace Go.Proofs.Ytbkcoiojcjmmlaa
open Go.RowKit
set_option linter.unusedVariables false
/-- a block of five cells, from B on, that may be written -/
structure Fr5 (B : Nat) (W : World) (g : Nat) (c0 c1 c2 c3 c4 : Value) : Prop where
  lo : B ≤ g
  hi : g < W.heap.size
  at0 : W.cell? ⟨g, 0, none⟩ = some c0
  at1 : W.cell? ⟨g, 1, none⟩ = some c1
  at2 : W.cell? ⟨g, 2, none⟩ = some c2
  at3 : W.cell? ⟨g, 3, none⟩ = some c3
  at4 : W.cell? ⟨g, 4, none⟩ = some c4
  fr : ∀ q, W.frozen? ⟨g, q, none⟩ = false
theorem Fr5.keep {B g : Nat} {W w' : World} {c0 c1 c2 c3 c4 : Value} (h : Fr5 B W g c0 c1 c2 c3 c4) (hb : Below W.heap.size W w') : Fr5 B w' g c0 c1 c2 c3 c4 := by
  obtain ⟨hc, hf⟩ := bcell hb
  exact ⟨h.lo, Nat.lt_of_lt_of_le h.hi hb.size, by rw [hc _ _ h.hi]; exact h.at0, by rw [hc _ _ h.hi]; exact h.at1, by rw [hc _ _ h.hi]; exact h.at2, by rw [hc _ _ h.hi]; exact h.at3, by rw [hc _ _ h.hi]; exact h.at4, fun q => by rw [hf _ _ h.hi]; exact h.fr q⟩
theorem fr5_alloc {B : Nat} {W : World} (hB : B ≤ W.heap.size) (c0 c1 c2 c3 c4 : Value) (t : TypeId) : Fr5 B (W.alloc (.cells #[c0, c1, c2, c3, c4] t)) W.heap.size c0 c1 c2 c3 c4 :=
  ⟨hB, by simp, by simp [go_sem], by simp [go_sem], by simp [go_sem], by simp [go_sem], by simp [go_sem], fun q => by simp [go_sem]⟩
theorem Fr5.drew {B g : Nat} {W : World} {c0 c1 c2 c3 c4 : Value} (h : Fr5 B W g c0 c1 c2 c3 c4) : Fr5 B W.drew g c0 c1 c2 c3 c4 := ⟨h.lo, h.hi, h.at0, h.at1, h.at2, h.at3, h.at4, h.fr⟩
theorem fr5_fresh {B : Nat} {W w' : World} {c0 c1 c2 c3 c4 : Value} {t : TypeId} (hB : B ≤ W.heap.size) (hb : Below (W.alloc (.cells #[c0, c1, c2, c3, c4] t)).heap.size (W.alloc (.cells #[c0, c1, c2, c3, c4] t)) w') : Fr5 B w' W.heap.size c0 c1 c2 c3 c4 := (fr5_alloc hB c0 c1 c2 c3 c4 t).keep hb
theorem fr5_freshD {B : Nat} {W w' : World} {c0 c1 c2 c3 c4 : Value} {t : TypeId} (hB : B ≤ W.heap.size) (hb : Below (W.alloc (.cells #[c0, c1, c2, c3, c4] t)).drew.heap.size (W.alloc (.cells #[c0, c1, c2, c3, c4] t)).drew w') : Fr5 B w' W.heap.size c0 c1 c2 c3 c4 := (fr5_alloc hB c0 c1 c2 c3 c4 t).drew.keep hb
theorem fr5_freshE {B : Nat} {W w' : World} {c0 c1 c2 c3 c4 : Value} {t : TypeId} (hB : B ≤ W.heap.size) (hb : Below (W.drew.alloc (.cells #[c0, c1, c2, c3, c4] t)).heap.size (W.drew.alloc (.cells #[c0, c1, c2, c3, c4] t)) w') : Fr5 B w' W.heap.size c0 c1 c2 c3 c4 := (fr5_alloc (W := W.drew) hB c0 c1 c2 c3 c4 t).keep hb
theorem Fr5.eq {B g g' : Nat} {W : World} {c0 c1 c2 c3 c4 : Value} (h : Fr5 B W g c0 c1 c2 c3 c4) (e : g = g') : Fr5 B W g' c0 c1 c2 c3 c4 := e ▸ h
theorem Bel.trans {w W w' : World} (h : Bel w W) (hb : Bel W w') : Bel w w' := below_step hb h
end Go.Proofs.Ytbkcoiojcjmmlaa
