/- Contracts: units. -/
import Derived.Test.YteckjpdfecgljaaPtC
import Derived.Test.YteckjpdfecgljaaMathD
import Derived.Deep.RegionHeld3
namespace Go.Proofs.Yteckjpdfecgljaa
open Go.RowKit Go.Flo
set_option linter.unusedSimpArgs false
set_option linter.unusedVariables false

theorem isPI.out {x : V3 × Int} {v : Value} (h : isPI x v) : ∃ r0 r1 r2, v = .tuple #[.agg #[.float .f32 r0, .float .f32 r1, .float .f32 r2], .int .i64 x.2] ∧ cp r0 r1 r2 = x.1 := by
  obtain ⟨r0, r1, r2, h, h0, h1, h2⟩ := h
  exact ⟨r0, r1, r2, h, cp_eq h0 h1 h2⟩
theorem isPI_mk {r0 r1 r2 : Nat} {x : V3 × Int} (h : cp r0 r1 r2 = x.1) {n : Int} (hn : n = x.2) : isPI x (.tuple #[.agg #[.float .f32 r0, .float .f32 r1, .float .f32 r2], .int .i64 n]) := by
  obtain ⟨p, q⟩ := x
  simp only at h hn
  subst h; subst hn; exact ⟨r0, r1, r2, rfl, rfl, rfl, rfl⟩
def isPB (x : V3 × Bool) (v : Value) : Prop := ∃ r0 r1 r2, v = .tuple #[.agg #[.float .f32 r0, .float .f32 r1, .float .f32 r2], .bool x.2] ∧ cp r0 r1 r2 = x.1
theorem zero_cp : cp 0 0 0 = zeroP := rfl
def unitI (p : V3) : V3 × Int := if (!finV (lenV p)) || smallI (lenV p) then (zeroP, 4) else doneV (overP p (lenV p))
def unitS (p : V3) : V3 × Bool := if !ge (lenV p) (c32 897581056) then (zeroP, false) else (overP p (lenV p), finP (overP p (lenV p)))

--## facts on tests
theorem ge_at {r c : Nat} {v : V} {b : Bool} (h : Hid (kcv .f32 r = v)) (hb : ge v (c32 c) = b) : (FloatKind.f32.format.order r c == some Ordering.gt || FloatKind.f32.format.order r c == some Ordering.eq) = b := by
  rw [← hb, ← h.out]; unfold ge c32; rw [ord32]
theorem le_at {r c : Nat} {v : V} {b : Bool} (h : Hid (kcv .f32 r = v)) (hb : le v (c32 c) = b) : (FloatKind.f32.format.order r c == some Ordering.lt || FloatKind.f32.format.order r c == some Ordering.eq) = b := by
  rw [← hb, ← h.out]; unfold le c32; rw [ord32]
theorem isPB_mk {r0 r1 r2 : Nat} {x : V3 × Bool} (h : cp r0 r1 r2 = x.1) {n : Bool} (hn : n = x.2) : isPB x (.tuple #[.agg #[.float .f32 r0, .float .f32 r1, .float .f32 r2], .bool n]) := by
  subst hn; exact ⟨r0, r1, r2, rfl, h⟩

--## end
end Go.Proofs.Yteckjpdfecgljaa
