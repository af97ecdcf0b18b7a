/- Contracts: lengths, finite numbers, what is too small. -/
import Derived.Test.YtljpggeogiabgaaDoorPtB
import Derived.Test.YtljpggeogiabgaaDoorMathC
import Derived.Laws.Externs
import Derived.Laws.BitsAllLaws
namespace Go.Proofs.YtljpggeogiabgaaDoor
open Go.RowKit Go.Flo
set_option linter.unusedSimpArgs false
set_option linter.unusedVariables false

def is64 (x : V) (v : Value) : Prop := ∃ r, v = .float .f64 r ∧ kcv .f64 r = x
def is64w (x : V) (v : Value) : Prop := ∃ r, v = .float .f64 r ∧ kcv .f64 r = x ∧ r < 2 ^ 64
def isU (n : Nat) (v : Value) : Prop := v = .int .u32 n
def isI (n : Int) (v : Value) : Prop := v = .int .i64 n
def zeroP : V3 := (c32 0, c32 0, c32 0)
def isPI (x : V3 × Int) (v : Value) : Prop := ∃ r0 r1 r2, v = .tuple #[.agg #[.float .f32 r0, .float .f32 r1, .float .f32 r2], .int .i64 x.2] ∧ kcv .f32 r0 = x.1.1 ∧ kcv .f32 r1 = x.1.2.1 ∧ kcv .f32 r2 = x.1.2.2
/-- likewise, but for what was drawn -/
def Drew (rel : Value → Prop) (w : World) (e : Ending) (w' : World) : Prop := ∃ v n, e = .returned v ∧ rel v ∧ w.drewN n = w'
def lenV (p : V3) : V := rootV (dotP p p)
def doneV (p : V3) : V3 × Int := if finP p then (p, 0) else (zeroP, 4)

theorem narrow_of {r q b : Nat} (h1 : Hid (kcv .f64 r = vsqrt FloatKind.f64.format (kcv .f64 q))) (h2 : Hid (kcv .f64 q = wide (kcv .f32 b) ∧ q < 2 ^ FloatKind.f64.format.width)) : NarrowOk (kcv .f64 r) := by
  rw [h1.out, h2.out.1]; exact root_ok b
theorem wide_isNone (b : Nat) : (wide (kcv .f32 b)).isNone = (kcv .f32 b).isNone := by
  rcases cases32 b with h | ⟨h, g⟩
  · rw [h]; rfl
  · rw [h]
    rcases Nat.lt_or_ge (rung Ieee.single b) Ieee.single.infRung with g2 | g2
    · obtain ⟨r, m, p, e, _⟩ := wide_some g2
      rw [e]; rfl
    · obtain ⟨r, e, _⟩ := wide_inf (b := b) (by omega)
      rw [e]; rfl

--## math.Sqrt
theorem sqrt_entry (args : Array Value) (w : World) : (callFunc 68 args).run Tryd.prog w = ((Extern.MathSqrt.sqrt args).run Tryd.prog w).andThen fun v w' => .ok (.value v) w' :=
  run_callFunc_extern Tryd.func68 (by kernel_rfl) (by kernel_rfl) (by kernel_rfl) (by kernel_rfl) args w
set_option maxHeartbeats 400000 in
theorem Sqrt_any (x : Nat) (w : World) : Calls Tryd.prog 58 #[.float .f64 x] w (Drew (is64 (vsqrt FloatKind.f64.format (kcv .f64 x))) w) := by
  obtain ⟨r, n, hrun, hr⟩ := run_sqrt (P := Tryd.prog) sqrt_entry x w
  have HR := Lib.hid hr; clear hr
  go_enter Tryd.func58, Tryd.ntmps58
  go_wp2_with fail
  simp [bodyPost, results, Tryd.results58, go_sem]
  exact ⟨_, _, rfl, ⟨_, rfl, HR.out⟩, rfl⟩

--## math.Abs
theorem bits64 (b : Nat) (w : World) : (callFunc 71 #[.float .f64 b]).run Tryd.prog w = .ok (.value (.int .u64 b)) w := by
  rw [run_callFunc_extern Tryd.func71 (e := Extern.MathFloatBits.float64bits) (by kernel_rfl) (by kernel_rfl) (by kernel_rfl) (by kernel_rfl)]; rfl
theorem from64 (b : Int) (w : World) : (callFunc 70 #[.int .u64 b]).run Tryd.prog w = .ok (.value (.float .f64 b.toNat)) w := by
  rw [run_callFunc_extern Tryd.func70 (e := Extern.MathFloatBits.float64frombits) (by kernel_rfl) (by kernel_rfl) (by kernel_rfl) (by kernel_rfl)]; rfl
theorem abs_bits {x : Nat} (hx : x < 2 ^ 64) : (bits .andNot .u64 (x : Int) 9223372036854775808).toNat = x % 2 ^ 63 := by
  have h := u64_andNot_nat x 9223372036854775808 hx (by decide)
  rw [show ((9223372036854775808 : Nat) : Int) = 9223372036854775808 from rfl] at h
  rw [h, Int.toNat_natCast]
  exact Nat.and_two_pow_sub_one_eq_mod x 63
theorem abs_cv (x : Nat) : kcv .f64 (x % 2 ^ 63) = absV (kcv .f64 x) := by
  have e1 : rung Ieee.double (x % 2 ^ 63) = rung Ieee.double x := by unfold rung; rw [double_weight, Nat.mod_mod]
  rcases cv_cases Ieee.double x with ⟨h, g⟩ | ⟨h, g⟩
  · have h2 : kcv .f64 x = none := h
    rw [h2]; exact cv_none (f := Ieee.double) (by rw [e1]; exact g)
  · have h2 : kcv .f64 x = some x := h
    rw [h2]; exact cv_some (f := Ieee.double) (by rw [e1]; exact g)
set_option maxHeartbeats 400000 in
theorem Abs_any (x : Nat) (hx : x < 2 ^ FloatKind.f64.format.width) (w : World) : Calls Tryd.prog 64 #[.float .f64 x] w (Same (is64 (absV (kcv .f64 x))) w) := by
  have h1 := bits64; have h2 := from64
  go_enter Tryd.func64, Tryd.ntmps64
  go_wp2
  simp [bodyPost, results, Tryd.results64, go_sem]
  refine ⟨_, rfl, ⟨_, rfl, ?_⟩, rfl⟩
  rw [abs_bits hx, abs_cv]
set_option maxHeartbeats 400000 in
theorem Abs_anyW (x : Nat) (hx : x < 2 ^ FloatKind.f64.format.width) (w : World) : Calls Tryd.prog 64 #[.float .f64 x] w (Same (is64w (absV (kcv .f64 x))) w) := by
  have h1 := bits64; have h2 := from64
  go_enter Tryd.func64, Tryd.ntmps64
  go_wp2
  simp [bodyPost, results, Tryd.results64, go_sem]
  refine ⟨_, rfl, ⟨_, rfl, ?_, ?_⟩, rfl⟩
  · rw [abs_bits hx, abs_cv]
  · rw [abs_bits hx]; exact Nat.lt_of_lt_of_le (Nat.mod_lt _ (by decide)) (by decide)


--## l01Root_any
set_option maxHeartbeats 400000 in
theorem l01Root_any (x : Nat) (w : World) :
    Calls Tryd.prog 54 #[.float .f32 x] w (Drew (isF (rootV (kcv .f32 x))) w) := by
  go_enter Tryd.func54, Tryd.ntmps54
  go_wp2_with (first | (refine wpList_widen rfl _ _ _ rfl _ rfl (by kernel_rfl) (by kernel_rfl) ?_; intro q n hw) | (refine wpList_narrow rfl _ _ _ rfl _ rfl (by kernel_rfl) (by kernel_rfl) (narrow_of HSQ hw) ?_; intro r n hr) | (go_at_call 58; refine (Sqrt_any _ _).mono ?_; rintro e w' ⟨_, n, rfl, ⟨q, rfl, hsq⟩, rfl⟩; have HSQ := Lib.hid hsq; clear hsq))
  simp [bodyPost, results, Tryd.results54, go_sem]
  refine ⟨_, _, rfl, ⟨_, rfl, ?_⟩, rfl⟩
  rw [hr.out, HSQ.out, hw.out.1]; rfl

--## length_any
set_option maxHeartbeats 400000 in
theorem length_any (x0 x1 x2 : Nat) (w : World) :
    Calls Tryd.prog 40 #[.agg #[.float .f32 x0, .float .f32 x1, .float .f32 x2]] w (Gives (isF (lenV (cp x0 x1 x2))) w) := by
  go_enter Tryd.func40, Tryd.ntmps40
  go_wp2_with (first | (refine wpList_widen rfl _ _ _ rfl _ rfl (by kernel_rfl) (by kernel_rfl) ?_; intro q n hw) | (refine wpList_narrow rfl _ _ _ rfl _ rfl (by kernel_rfl) (by kernel_rfl) (narrow_of HSQ hw) ?_; intro r n hr) | (go_at_call 58; refine (Sqrt_any _ _).mono ?_; rintro e w' ⟨_, n, rfl, ⟨q, rfl, hsq⟩, rfl⟩; have HSQ := Lib.hid hsq; clear hsq) | (go_at_call 59; refine (dot_any _ _ _ _ _ _ _).mono ?_; rintro e w' ⟨_, rfl, ⟨d, rfl, hd⟩, hb⟩; have HD := Lib.hid hd; clear hd; have HB := Lib.hid hb; clear hb))
  simp [bodyPost, results, Tryd.results40, go_sem]
  refine ⟨_, rfl, ⟨_, rfl, ?_⟩, by ((try simp only [Hid] at *); repeat' (first | (with_reducible exact Below.refl _ _) | (with_reducible refine below_drewN ?_ _) | (with_reducible refine Below.drew ?_) | (with_reducible refine below_alloc ?_) | (with_reducible refine below_set ?_ ?_) | (refine below_step (by with_reducible assumption) ?_) | (simp; done) | (simp; omega) | omega))⟩
  rw [hr.out, HSQ.out, hw.out.1, HD.out]; rfl

--## LengthOfS
set_option maxHeartbeats 400000 in
theorem LengthOfS (x0 x1 x2 : Nat) (w : World) :
    Calls Tryd.prog 36 #[.agg #[.float .f32 x0, .float .f32 x1, .float .f32 x2]] w (Gives (isF (lenV (cp x0 x1 x2))) w) := by
  go_enter Tryd.func36, Tryd.ntmps36
  go_wp2_with (first | (go_at_call 54; refine (l01Root_any _ _).mono ?_; rintro e w' ⟨_, n, rfl, ⟨r, rfl, hr⟩, rfl⟩; have HR := Lib.hid hr; clear hr) | (go_at_call 55; refine (DotOfS _ _ _ _ _ _ _).mono ?_; rintro e w' ⟨_, rfl, ⟨d, rfl, hd⟩, hb⟩; have HD := Lib.hid hd; clear hd; have HB := Lib.hid hb; clear hb))
  simp [bodyPost, results, Tryd.results36, go_sem]
  refine ⟨_, rfl, ⟨_, rfl, ?_⟩, by ((try simp only [Hid] at *); repeat' (first | (with_reducible exact Below.refl _ _) | (with_reducible refine below_drewN ?_ _) | (with_reducible refine Below.drew ?_) | (with_reducible refine below_alloc ?_) | (with_reducible refine below_set ?_ ?_) | (refine below_step (by with_reducible assumption) ?_) | (simp; done) | (simp; omega) | omega))⟩
  rw [HR.out, HD.out]; rfl

--## isTooSmall_any
set_option maxHeartbeats 400000 in
theorem isTooSmall_any (x : Nat) (w : World) :
    Calls Tryd.prog 51 #[.float .f32 x] w (Drew (isB (smallI (kcv .f32 x))) w) := by
  go_enter Tryd.func51, Tryd.ntmps51
  go_wp2_with (first | (refine wpList_widen rfl _ _ _ rfl _ rfl (by kernel_rfl) (by kernel_rfl) ?_; intro q n hw) | (go_at_call 64; refine (Abs_any _ hw.out.2 _).mono ?_; rintro e w' ⟨_, rfl, ⟨r, rfl, hr⟩, rfl⟩; have HR := Lib.hid hr; clear hr))
  simp [bodyPost, results, Tryd.results51, go_sem]
  refine ⟨_, _, rfl, ?_, rfl⟩
  unfold isB smallI
  rw [← hw.out.1, ← HR.out]; unfold c64; rw [ord64]

--## l01Small_any
set_option maxHeartbeats 400000 in
theorem l01Small_any (x : Nat) (w : World) :
    Calls Tryd.prog 26 #[.float .f32 x] w (Same (isB (smallS (kcv .f32 x))) w) := by
  cases h0 : (FloatKind.f32.format.order x 897581056 == some Ordering.gt || FloatKind.f32.format.order x 897581056 == some Ordering.eq)
  all_goals
  go_enter Tryd.func26, Tryd.ntmps26
  go_wp2
  all_goals
    simp [bodyPost, results, Tryd.results26, go_sem]
    refine ⟨_, rfl, ?_, rfl⟩
    simp_all [lt, le, gt, ge, eqf, plainV, finV, c32, c64, isB, ord32, ord64, smallS]
    try (intro a b; rcases h0 with h | h; exact absurd h a; exact absurd h b)

--## IsNaN_any
set_option maxHeartbeats 400000 in
theorem IsNaN_any (x : Nat) (w : World) :
    Calls Tryd.prog 48 #[.float .f64 x] w (Same (isB (kcv .f64 x).isNone) w) := by
  go_enter Tryd.func48, Tryd.ntmps48
  go_wp2
  simp [bodyPost, results, Tryd.results48, go_sem]
  refine ⟨_, rfl, ?_, rfl⟩
  unfold isB
  rcases cv_cases FloatKind.f64.format x with ⟨h1, g1⟩ | ⟨h1, g1⟩
  · rw [order_nan_left (good .f64) g1]; unfold kcv; rw [h1]; rfl
  · rw [order_refl (good .f64) g1]; unfold kcv; rw [h1]; rfl

--## impl.bitsOf
theorem bits32 (b : Nat) (w : World) : (callFunc 49 #[.float .f32 b]).run Tryd.prog w = .ok (.value (.int .u32 b)) w := by
  rw [run_callFunc_extern Tryd.func49 (e := Extern.MathFloatBits.float32bits) (by kernel_rfl) (by kernel_rfl) (by kernel_rfl) (by kernel_rfl)]; rfl
--## bitsV
def bitsV (x : V) : Nat := match x with | none => 2143289344 | some b => b
theorem bitsV_of {x : Nat} (h : (kcv .f32 x).isNone = false) : bitsV (kcv .f32 x) = x := by
  rcases cases32 x with h1 | ⟨h1, _⟩
  · rw [h1] at h; cases h
  · rw [h1]; rfl

--## bitsOf_true
set_option maxHeartbeats 400000 in
theorem bitsOf_true (x : Nat) (h : (kcv .f32 x).isNone = true) (w : World) :
    Calls Tryd.prog 31 #[.float .f32 x] w (Drew (isU (bitsV (kcv .f32 x))) w) := by
  have h1 := bits32; have HN := Lib.hid h; clear h
  go_enter Tryd.func31, Tryd.ntmps31
  go_wp2_with (first | (refine wpList_widen rfl _ _ _ rfl _ rfl (by kernel_rfl) (by kernel_rfl) ?_; intro q n hw) | (go_at_call 48; refine (IsNaN_any _ _).mono ?_; rintro e w' ⟨_, rfl, rfl, rfl⟩; rw [hw.out.1, wide_isNone, HN.out]))
  simp [bodyPost, results, Tryd.results31, go_sem]
  refine ⟨_, _, rfl, ?_, rfl⟩
  unfold isU
  rw [Option.isNone_iff_eq_none.1 HN.out]; rfl

--## bitsOf_false
set_option maxHeartbeats 400000 in
theorem bitsOf_false (x : Nat) (h : (kcv .f32 x).isNone = false) (w : World) :
    Calls Tryd.prog 31 #[.float .f32 x] w (Drew (isU (bitsV (kcv .f32 x))) w) := by
  have h1 := bits32; have HN := Lib.hid h; clear h
  go_enter Tryd.func31, Tryd.ntmps31
  go_wp2_with (first | (refine wpList_widen rfl _ _ _ rfl _ rfl (by kernel_rfl) (by kernel_rfl) ?_; intro q n hw) | (go_at_call 48; refine (IsNaN_any _ _).mono ?_; rintro e w' ⟨_, rfl, rfl, rfl⟩; rw [hw.out.1, wide_isNone, HN.out]))
  simp [bodyPost, results, Tryd.results31, go_sem]
  refine ⟨_, _, rfl, ?_, rfl⟩
  unfold isU
  rw [bitsV_of HN.out]

--## impl.bitsOf any 31
theorem bitsOf_any (x : Nat) (w : World) : Calls Tryd.prog 31 #[.float .f32 x] w (Drew (isU (bitsV (kcv .f32 x))) w) := by
  cases h : (kcv .f32 x).isNone
  · exact bitsOf_false x h w
  · exact bitsOf_true x h w

--## isSmall_true 33
set_option maxHeartbeats 400000 in
theorem isSmall_true (x : Nat) (h : (kcv .f32 x).isNone = true) (w : World) :
    Calls Tryd.prog 33 #[.float .f32 x] w (Drew (isB (smallS (kcv .f32 x))) w) := by
  have HN := Lib.hid h; clear h
  go_enter Tryd.func33, Tryd.ntmps33
  go_wp2_with (first | (refine wpList_widen rfl _ _ _ rfl _ rfl (by kernel_rfl) (by kernel_rfl) ?_; intro q n hw) | (go_at_call 48; refine (IsNaN_any _ _).mono ?_; rintro e w' ⟨_, rfl, rfl, rfl⟩; rw [hw.out.1, wide_isNone, HN.out]))
  simp [bodyPost, results, Tryd.results33, go_sem]
  refine ⟨_, _, rfl, ?_, rfl⟩
  unfold isB
  rw [Option.isNone_iff_eq_none.1 HN.out, smallS_none]

--## isSmall_false 33
set_option maxHeartbeats 400000 in
theorem isSmall_false (x : Nat) (h : (kcv .f32 x).isNone = false) (w : World) :
    Calls Tryd.prog 33 #[.float .f32 x] w (Drew (isB (smallS (kcv .f32 x))) w) := by
  have HN := Lib.hid h; clear h
  go_enter Tryd.func33, Tryd.ntmps33
  go_wp2_with (first | (refine wpList_widen rfl _ _ _ rfl _ rfl (by kernel_rfl) (by kernel_rfl) ?_; intro q n hw) | (go_at_call 48; refine (IsNaN_any _ _).mono ?_; rintro e w' ⟨_, rfl, rfl, rfl⟩; rw [hw.out.1, wide_isNone, HN.out]) | (go_at_call 51; refine (isTooSmall_any _ _).mono ?_; rintro e w' ⟨_, n2, rfl, rfl, rfl⟩))
  simp [bodyPost, results, Tryd.results33, go_sem]
  refine ⟨_, _, rfl, ?_, rfl⟩
  unfold isB
  rcases cases32 x with h1 | ⟨h1, hb⟩
  · have := HN.out; rw [h1] at this; cases this
  · rw [h1, small_eq (by assumption)]

--## isSmall any 33
theorem isSmall_any (x : Nat) (w : World) : Calls Tryd.prog 33 #[.float .f32 x] w (Drew (isB (smallS (kcv .f32 x))) w) := by
  cases h : (kcv .f32 x).isNone
  · exact isSmall_false x h w
  · exact isSmall_true x h w
--## end
--## end
end Go.Proofs.YtljpggeogiabgaaDoor
