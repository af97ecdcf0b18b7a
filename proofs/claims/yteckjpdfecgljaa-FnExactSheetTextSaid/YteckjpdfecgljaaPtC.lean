/- Contracts: lengths, finite numbers, what is too small. -/
import Derived.Test.YteckjpdfecgljaaPtB
import Derived.Test.YteckjpdfecgljaaMathC
import Derived.Laws.Externs
import Derived.Laws.BitsAllLaws
namespace Go.Proofs.Yteckjpdfecgljaa
open Go.RowKit Go.Flo
set_option linter.unusedSimpArgs false
set_option linter.unusedVariables false

def is64 (x : V) (v : Value) : Prop := ∃ r, v = .float .f64 r ∧ kcv .f64 r = x
def is64w (x : V) (v : Value) : Prop := ∃ r, v = .float .f64 r ∧ kcv .f64 r = x ∧ r < 2 ^ 64
def isU (n : Nat) (v : Value) : Prop := v = .int .u32 n
def isI (n : Int) (v : Value) : Prop := v = .int .i64 n
def zeroP : V3 := (c32 0, c32 0, c32 0)
def isPI (x : V3 × Int) (v : Value) : Prop := ∃ r0 r1 r2, v = .tuple #[.agg #[.float .f32 r0, .float .f32 r1, .float .f32 r2], .int .i64 x.2] ∧ kcv .f32 r0 = x.1.1 ∧ kcv .f32 r1 = x.1.2.1 ∧ kcv .f32 r2 = x.1.2.2
/-- likewise, but for what was drawn -/
def Drew (rel : Value → Prop) (w : World) (e : Ending) (w' : World) : Prop := ∃ v n, e = .returned v ∧ rel v ∧ w.drewN n = w'
def lenV (p : V3) : V := rootV (dotP p p)
def doneV (p : V3) : V3 × Int := if finP p then (p, 0) else (zeroP, 4)

theorem narrow_of {r q b : Nat} (h1 : Hid (kcv .f64 r = vsqrt FloatKind.f64.format (kcv .f64 q))) (h2 : Hid (kcv .f64 q = wide (kcv .f32 b) ∧ q < 2 ^ FloatKind.f64.format.width)) : NarrowOk (kcv .f64 r) := by
  rw [h1.out, h2.out.1]; exact root_ok b
theorem wide_isNone (b : Nat) : (wide (kcv .f32 b)).isNone = (kcv .f32 b).isNone := by
  rcases cases32 b with h | ⟨h, g⟩
  · rw [h]; rfl
  · rw [h]
    rcases Nat.lt_or_ge (rung Ieee.single b) Ieee.single.infRung with g2 | g2
    · obtain ⟨r, m, p, e, _⟩ := wide_some g2
      rw [e]; rfl
    · obtain ⟨r, e, _⟩ := wide_inf (b := b) (by omega)
      rw [e]; rfl

--## bitsV
def bitsV (x : V) : Nat := match x with | none => 2143289344 | some b => b
theorem bitsV_of {x : Nat} (h : (kcv .f32 x).isNone = false) : bitsV (kcv .f32 x) = x := by
  rcases cases32 x with h1 | ⟨h1, _⟩
  · rw [h1] at h; cases h
  · rw [h1]; rfl

--## end
--## end
end Go.Proofs.Yteckjpdfecgljaa
