/- Contracts: points read from their texts. -/
import Derived.Test.YtljpggeogiabgaaDoorTxtC
import Derived.StillTailTactics
import Derived.RegionTactic
namespace Go.Proofs.YtljpggeogiabgaaDoor
open Go.ChangeShapes Go.WideShapes Go.ChangeAt Go.RowKit Go.Flo Go.Mem
set_option linter.unusedSimpArgs false
set_option linter.unusedVariables false
def ptR (ws : List ByteArray) : Option (Nat × Nat × Nat) := match numsV ws with
  | some [x, y, z] => if plainP (cp x y z) = true then some (x, y, z) else none
  | _ => none
def isRP (o : Option (Nat × Nat × Nat)) (v : Value) : Prop := match o with
  | some (x, y, z) => v = .tuple #[.agg #[.float .f32 x, .float .f32 y, .float .f32 z], .int .i64 0]
  | none => v = .tuple #[.agg #[.float .f32 0, .float .f32 0, .float .f32 0], .int .i64 5]
theorem ptR_none {ws : List ByteArray} (h : numsV ws = none) : ptR ws = none := by unfold ptR; rw [h]
theorem ptR_len {ws : List ByteArray} {ns : List Nat} (h : numsV ws = some ns) (hl : ns.length ≠ 3) : ptR ws = none := by
  unfold ptR; rw [h]
  split
  · rename_i x y z e; cases e; simp at hl
  · rfl
theorem ptR_three {ws : List ByteArray} {x y z : Nat} (h : numsV ws = some [x, y, z]) : ptR ws = if plainP (cp x y z) = true then some (x, y, z) else none := by unfold ptR; rw [h]
theorem three {ns : List Nat} (h : ns.length = 3) : ∃ x y z, ns = [x, y, z] := by
  match ns, h with
  | [x, y, z], _ => exact ⟨x, y, z, rfl⟩
theorem rls3 {w : World} {u : Value} {x y z : Nat} (h : Rls 1 w u (rF [x, y, z])) : ∃ b c, u = .slice (some b) 3 c ∧ b.block < w.heap.size ∧ w.cell? b = some (.float .f32 x) ∧ w.cell? ⟨b.block, b.off + 1, none⟩ = some (.float .f32 y) ∧ w.cell? ⟨b.block, b.off + 2, none⟩ = some (.float .f32 z) := by
  obtain ⟨b, c, rfl, h0, h1⟩ := h.at (i := 0) rfl
  obtain ⟨b1, c1, e1, _, h2⟩ := h.at (i := 1) rfl
  obtain ⟨b2, c2, e2, _, h3⟩ := h.at (i := 2) rfl
  cases e1; cases e2
  have hz : (b.add (0 * 1)).add 0 = b := by simp [Addr.add]
  have h0' : b.block < w.heap.size := by rw [add_block'] at h0; exact h0
  refine ⟨b, c, rfl, h0', ?_, ?_, ?_⟩
  · have := h1 0 _ rfl; rwa [hz] at this
  · have := h2 0 _ rfl
    have e : (b.add (1 * 1)).add 0 = ⟨b.block, b.off + 1, none⟩ := by simp [Addr.add]
    rwa [e] at this
  · have := h3 0 _ rfl
    have e : (b.add (2 * 1)).add 0 = ⟨b.block, b.off + 2, none⟩ := by simp [Addr.add]
    rwa [e] at this
