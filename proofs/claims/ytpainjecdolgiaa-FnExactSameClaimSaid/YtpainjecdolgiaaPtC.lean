/- Contracts: lengths, finite numbers, what is too small. -/
import Derived.Test.YtpainjecdolgiaaPtB
import Derived.Test.YtpainjecdolgiaaMathC
import Derived.Laws.Externs
import Derived.Laws.BitsAllLaws
namespace Go.Proofs.Ytpainjecdolgiaa
open Go.RowKit Go.Flo
set_option linter.unusedSimpArgs false
set_option linter.unusedVariables false

def is64 (x : V) (v : Value) : Prop := ∃ r, v = .float .f64 r ∧ kcv .f64 r = x
def is64w (x : V) (v : Value) : Prop := ∃ r, v = .float .f64 r ∧ kcv .f64 r = x ∧ r < 2 ^ 64
def isU (n : Nat) (v : Value) : Prop := v = .int .u32 n
def isI (n : Int) (v : Value) : Prop := v = .int .i64 n
def zeroP : V3 := (c32 0, c32 0, c32 0)
def isPI (x : V3 × Int) (v : Value) : Prop := ∃ r0 r1 r2, v = .tuple #[.agg #[.float .f32 r0, .float .f32 r1, .float .f32 r2], .int .i64 x.2] ∧ kcv .f32 r0 = x.1.1 ∧ kcv .f32 r1 = x.1.2.1 ∧ kcv .f32 r2 = x.1.2.2
/-- likewise, but for what was drawn -/
def Drew (rel : Value → Prop) (w : World) (e : Ending) (w' : World) : Prop := ∃ v n, e = .returned v ∧ rel v ∧ w.drewN n = w'
def lenV (p : V3) : V := rootV (dotP p p)
def doneV (p : V3) : V3 × Int := if finP p then (p, 0) else (zeroP, 4)

theorem narrow_of {r q b : Nat} (h1 : Hid (kcv .f64 r = vsqrt FloatKind.f64.format (kcv .f64 q))) (h2 : Hid (kcv .f64 q = wide (kcv .f32 b) ∧ q < 2 ^ FloatKind.f64.format.width)) : NarrowOk (kcv .f64 r) := by
  rw [h1.out, h2.out.1]; exact root_ok b
theorem wide_isNone (b : Nat) : (wide (kcv .f32 b)).isNone = (kcv .f32 b).isNone := by
  rcases cases32 b with h | ⟨h, g⟩
  · rw [h]; rfl
  · rw [h]
    rcases Nat.lt_or_ge (rung Ieee.single b) Ieee.single.infRung with g2 | g2
    · obtain ⟨r, m, p, e, _⟩ := wide_some g2
      rw [e]; rfl
    · obtain ⟨r, e, _⟩ := wide_inf (b := b) (by omega)
      rw [e]; rfl

--## IsNaN_any
set_option maxHeartbeats 400000 in
theorem IsNaN_any (x : Nat) (w : World) :
    Calls Try.prog 46 #[.float .f64 x] w (Same (isB (kcv .f64 x).isNone) w) := by
  go_enter Try.func46, Try.ntmps46
  go_wp2
  simp [bodyPost, results, Try.results46, go_sem]
  refine ⟨_, rfl, ?_, rfl⟩
  unfold isB
  rcases cv_cases FloatKind.f64.format x with ⟨h1, g1⟩ | ⟨h1, g1⟩
  · rw [order_nan_left (good .f64) g1]; unfold kcv; rw [h1]; rfl
  · rw [order_refl (good .f64) g1]; unfold kcv; rw [h1]; rfl

--## impl.bitsOf
theorem bits32 (b : Nat) (w : World) : (callFunc 45 #[.float .f32 b]).run Try.prog w = .ok (.value (.int .u32 b)) w := by
  rw [run_callFunc_extern Try.func45 (e := Extern.MathFloatBits.float32bits) (by kernel_rfl) (by kernel_rfl) (by kernel_rfl) (by kernel_rfl)]; rfl
--## bitsV
def bitsV (x : V) : Nat := match x with | none => 2143289344 | some b => b
theorem bitsV_of {x : Nat} (h : (kcv .f32 x).isNone = false) : bitsV (kcv .f32 x) = x := by
  rcases cases32 x with h1 | ⟨h1, _⟩
  · rw [h1] at h; cases h
  · rw [h1]; rfl

--## bitsOf_true
set_option maxHeartbeats 400000 in
theorem bitsOf_true (x : Nat) (h : (kcv .f32 x).isNone = true) (w : World) :
    Calls Try.prog 37 #[.float .f32 x] w (Drew (isU (bitsV (kcv .f32 x))) w) := by
  have h1 := bits32; have HN := Lib.hid h; clear h
  go_enter Try.func37, Try.ntmps37
  go_wp2_with (first | (refine wpList_widen rfl _ _ _ rfl _ rfl (by kernel_rfl) (by kernel_rfl) ?_; intro q n hw) | (go_at_call 46; refine (IsNaN_any _ _).mono ?_; rintro e w' ⟨_, rfl, rfl, rfl⟩; rw [hw.out.1, wide_isNone, HN.out]))
  simp [bodyPost, results, Try.results37, go_sem]
  refine ⟨_, _, rfl, ?_, rfl⟩
  unfold isU
  rw [Option.isNone_iff_eq_none.1 HN.out]; rfl

--## bitsOf_false
set_option maxHeartbeats 400000 in
theorem bitsOf_false (x : Nat) (h : (kcv .f32 x).isNone = false) (w : World) :
    Calls Try.prog 37 #[.float .f32 x] w (Drew (isU (bitsV (kcv .f32 x))) w) := by
  have h1 := bits32; have HN := Lib.hid h; clear h
  go_enter Try.func37, Try.ntmps37
  go_wp2_with (first | (refine wpList_widen rfl _ _ _ rfl _ rfl (by kernel_rfl) (by kernel_rfl) ?_; intro q n hw) | (go_at_call 46; refine (IsNaN_any _ _).mono ?_; rintro e w' ⟨_, rfl, rfl, rfl⟩; rw [hw.out.1, wide_isNone, HN.out]))
  simp [bodyPost, results, Try.results37, go_sem]
  refine ⟨_, _, rfl, ?_, rfl⟩
  unfold isU
  rw [bitsV_of HN.out]

--## impl.bitsOf any 37
theorem bitsOf_any (x : Nat) (w : World) : Calls Try.prog 37 #[.float .f32 x] w (Drew (isU (bitsV (kcv .f32 x))) w) := by
  cases h : (kcv .f32 x).isNone
  · exact bitsOf_false x h w
  · exact bitsOf_true x h w

--## end
--## end
end Go.Proofs.Ytpainjecdolgiaa
