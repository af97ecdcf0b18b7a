/- Contracts: lengths, finite numbers, what is too small. -/
import Derived.Test.YtpaangcbcknhlaaPtB
import Derived.Test.YtpaangcbcknhlaaMathC
import Derived.Laws.Externs
import Derived.Laws.BitsAllLaws
namespace Go.Proofs.Ytpaangcbcknhlaa
open Go.RowKit Go.Flo
set_option linter.unusedSimpArgs false
set_option linter.unusedVariables false

def is64 (x : V) (v : Value) : Prop := ∃ r, v = .float .f64 r ∧ kcv .f64 r = x
def is64w (x : V) (v : Value) : Prop := ∃ r, v = .float .f64 r ∧ kcv .f64 r = x ∧ r < 2 ^ 64
def isU (n : Nat) (v : Value) : Prop := v = .int .u32 n
def isI (n : Int) (v : Value) : Prop := v = .int .i64 n
def zeroP : V3 := (c32 0, c32 0, c32 0)
def isPI (x : V3 × Int) (v : Value) : Prop := ∃ r0 r1 r2, v = .tuple #[.agg #[.float .f32 r0, .float .f32 r1, .float .f32 r2], .int .i64 x.2] ∧ kcv .f32 r0 = x.1.1 ∧ kcv .f32 r1 = x.1.2.1 ∧ kcv .f32 r2 = x.1.2.2
/-- likewise, but for what was drawn -/
def Drew (rel : Value → Prop) (w : World) (e : Ending) (w' : World) : Prop := ∃ v n, e = .returned v ∧ rel v ∧ w.drewN n = w'
def lenV (p : V3) : V := rootV (dotP p p)
def doneV (p : V3) : V3 × Int := if finP p then (p, 0) else (zeroP, 4)

theorem narrow_of {r q b : Nat} (h1 : Hid (kcv .f64 r = vsqrt FloatKind.f64.format (kcv .f64 q))) (h2 : Hid (kcv .f64 q = wide (kcv .f32 b) ∧ q < 2 ^ FloatKind.f64.format.width)) : NarrowOk (kcv .f64 r) := by
  rw [h1.out, h2.out.1]; exact root_ok b
theorem wide_isNone (b : Nat) : (wide (kcv .f32 b)).isNone = (kcv .f32 b).isNone := by
  rcases cases32 b with h | ⟨h, g⟩
  · rw [h]; rfl
  · rw [h]
    rcases Nat.lt_or_ge (rung Ieee.single b) Ieee.single.infRung with g2 | g2
    · obtain ⟨r, m, p, e, _⟩ := wide_some g2
      rw [e]; rfl
    · obtain ⟨r, e, _⟩ := wide_inf (b := b) (by omega)
      rw [e]; rfl

--## math.Abs
theorem bits64 (b : Nat) (w : World) : (callFunc 193 #[.float .f64 b]).run Try.prog w = .ok (.value (.int .u64 b)) w := by
  rw [run_callFunc_extern Try.func193 (e := Extern.MathFloatBits.float64bits) (by kernel_rfl) (by kernel_rfl) (by kernel_rfl) (by kernel_rfl)]; rfl
theorem from64 (b : Int) (w : World) : (callFunc 192 #[.int .u64 b]).run Try.prog w = .ok (.value (.float .f64 b.toNat)) w := by
  rw [run_callFunc_extern Try.func192 (e := Extern.MathFloatBits.float64frombits) (by kernel_rfl) (by kernel_rfl) (by kernel_rfl) (by kernel_rfl)]; rfl
theorem abs_bits {x : Nat} (hx : x < 2 ^ 64) : (bits .andNot .u64 (x : Int) 9223372036854775808).toNat = x % 2 ^ 63 := by
  have h := u64_andNot_nat x 9223372036854775808 hx (by decide)
  rw [show ((9223372036854775808 : Nat) : Int) = 9223372036854775808 from rfl] at h
  rw [h, Int.toNat_natCast]
  exact Nat.and_two_pow_sub_one_eq_mod x 63
theorem abs_cv (x : Nat) : kcv .f64 (x % 2 ^ 63) = absV (kcv .f64 x) := by
  have e1 : rung Ieee.double (x % 2 ^ 63) = rung Ieee.double x := by unfold rung; rw [double_weight, Nat.mod_mod]
  rcases cv_cases Ieee.double x with ⟨h, g⟩ | ⟨h, g⟩
  · have h2 : kcv .f64 x = none := h
    rw [h2]; exact cv_none (f := Ieee.double) (by rw [e1]; exact g)
  · have h2 : kcv .f64 x = some x := h
    rw [h2]; exact cv_some (f := Ieee.double) (by rw [e1]; exact g)
set_option maxHeartbeats 400000 in
theorem Abs_any (x : Nat) (hx : x < 2 ^ FloatKind.f64.format.width) (w : World) : Calls Try.prog 183 #[.float .f64 x] w (Same (is64 (absV (kcv .f64 x))) w) := by
  have h1 := bits64; have h2 := from64
  go_enter Try.func183, Try.ntmps183
  go_wp2
  simp [bodyPost, results, Try.results183, go_sem]
  refine ⟨_, rfl, ⟨_, rfl, ?_⟩, rfl⟩
  rw [abs_bits hx, abs_cv]
set_option maxHeartbeats 400000 in
theorem Abs_anyW (x : Nat) (hx : x < 2 ^ FloatKind.f64.format.width) (w : World) : Calls Try.prog 183 #[.float .f64 x] w (Same (is64w (absV (kcv .f64 x))) w) := by
  have h1 := bits64; have h2 := from64
  go_enter Try.func183, Try.ntmps183
  go_wp2
  simp [bodyPost, results, Try.results183, go_sem]
  refine ⟨_, rfl, ⟨_, rfl, ?_, ?_⟩, rfl⟩
  · rw [abs_bits hx, abs_cv]
  · rw [abs_bits hx]; exact Nat.lt_of_lt_of_le (Nat.mod_lt _ (by decide)) (by decide)


--## IsNaN_any
set_option maxHeartbeats 400000 in
theorem IsNaN_any (x : Nat) (w : World) :
    Calls Try.prog 153 #[.float .f64 x] w (Same (isB (kcv .f64 x).isNone) w) := by
  go_enter Try.func153, Try.ntmps153
  go_wp2
  simp [bodyPost, results, Try.results153, go_sem]
  refine ⟨_, rfl, ?_, rfl⟩
  unfold isB
  rcases cv_cases FloatKind.f64.format x with ⟨h1, g1⟩ | ⟨h1, g1⟩
  · rw [order_nan_left (good .f64) g1]; unfold kcv; rw [h1]; rfl
  · rw [order_refl (good .f64) g1]; unfold kcv; rw [h1]; rfl

--## impl.bitsOf
theorem bits32 (b : Nat) (w : World) : (callFunc 152 #[.float .f32 b]).run Try.prog w = .ok (.value (.int .u32 b)) w := by
  rw [run_callFunc_extern Try.func152 (e := Extern.MathFloatBits.float32bits) (by kernel_rfl) (by kernel_rfl) (by kernel_rfl) (by kernel_rfl)]; rfl
--## bitsV
def bitsV (x : V) : Nat := match x with | none => 2143289344 | some b => b
theorem bitsV_of {x : Nat} (h : (kcv .f32 x).isNone = false) : bitsV (kcv .f32 x) = x := by
  rcases cases32 x with h1 | ⟨h1, _⟩
  · rw [h1] at h; cases h
  · rw [h1]; rfl

--## bitsOf_true
set_option maxHeartbeats 400000 in
theorem bitsOf_true (x : Nat) (h : (kcv .f32 x).isNone = true) (w : World) :
    Calls Try.prog 121 #[.float .f32 x] w (Drew (isU (bitsV (kcv .f32 x))) w) := by
  have h1 := bits32; have HN := Lib.hid h; clear h
  go_enter Try.func121, Try.ntmps121
  go_wp2_with (first | (refine wpList_widen rfl _ _ _ rfl _ rfl (by kernel_rfl) (by kernel_rfl) ?_; intro q n hw) | (go_at_call 153; refine (IsNaN_any _ _).mono ?_; rintro e w' ⟨_, rfl, rfl, rfl⟩; rw [hw.out.1, wide_isNone, HN.out]))
  simp [bodyPost, results, Try.results121, go_sem]
  refine ⟨_, _, rfl, ?_, rfl⟩
  unfold isU
  rw [Option.isNone_iff_eq_none.1 HN.out]; rfl

--## bitsOf_false
set_option maxHeartbeats 400000 in
theorem bitsOf_false (x : Nat) (h : (kcv .f32 x).isNone = false) (w : World) :
    Calls Try.prog 121 #[.float .f32 x] w (Drew (isU (bitsV (kcv .f32 x))) w) := by
  have h1 := bits32; have HN := Lib.hid h; clear h
  go_enter Try.func121, Try.ntmps121
  go_wp2_with (first | (refine wpList_widen rfl _ _ _ rfl _ rfl (by kernel_rfl) (by kernel_rfl) ?_; intro q n hw) | (go_at_call 153; refine (IsNaN_any _ _).mono ?_; rintro e w' ⟨_, rfl, rfl, rfl⟩; rw [hw.out.1, wide_isNone, HN.out]))
  simp [bodyPost, results, Try.results121, go_sem]
  refine ⟨_, _, rfl, ?_, rfl⟩
  unfold isU
  rw [bitsV_of HN.out]

--## impl.bitsOf any 121
theorem bitsOf_any (x : Nat) (w : World) : Calls Try.prog 121 #[.float .f32 x] w (Drew (isU (bitsV (kcv .f32 x))) w) := by
  cases h : (kcv .f32 x).isNone
  · exact bitsOf_false x h w
  · exact bitsOf_true x h w

--## end
--## end
end Go.Proofs.Ytpaangcbcknhlaa
