/- The float operations of a run, on canonical values (in which all NaNs are one). -/
import Derived.WalkKit
import Derived.WalkLawsBesides
import Derived.Deep.Draws
import Derived.Handy
import Derived.WalkMore
import Derived.Laws.EntriesVeiled
import Derived.Test.YteckjpdfecgljaaFloA
namespace Go.Flo
open Go.RowKit

theorem good (k : FloatKind) : Good k.format := by cases k; exact good_single; exact good_double

def kcv (k : FloatKind) (w : Nat) : Option Nat := cv k.format w
def vop (op : BinOp) (k : FloatKind) (x y : Option Nat) : Option Nat :=
  match op with
  | .add => vadd k.format x y
  | .sub => vsub k.format x y
  | .mul => vmul k.format x y
  | .quo => vdiv k.format x y
  | _ => none

theorem vop_bits {op : BinOp} (h : op = .add ∨ op = .sub ∨ op = .mul ∨ op = .quo) (k : FloatKind) (a b : Nat) : floatBits op k a b = vop op k (kcv k a) (kcv k b) := by
  rcases h with rfl | rfl | rfl | rfl
  · exact (vadd_cv (good k) a b).symm
  · exact (vsub_cv (good k) a b).symm
  · exact (vmul_cv (good k) a b).symm
  · exact (vdiv_cv (good k) a b).symm

theorem floatBits_cv {op : BinOp} {k : FloatKind} {a b r : Nat} (h : floatBits op k a b = some r) : kcv k r = some r := by
  refine cv_some ?_
  unfold floatBits at h
  split at h
  · exact add_rung h
  · exact sub_rung h
  · exact mul_rung h
  · exact div_rung h
  · cases h

/-- the tape's answer where a NaN is asked is a NaN -/
def nanOf (k : FloatKind) (t : Nat) : Nat :=
  match k with
  | .f32 => (t % 2) * 2 ^ 31 + 0x7f800000 + 1 + (t / 2) % (2 ^ 23 - 1)
  | .f64 => (t % 2) * 2 ^ 63 + 0x7ff0000000000000 + 1 + (t / 2) % (2 ^ 52 - 1)

theorem nanOf_cv (k : FloatKind) (t : Nat) : kcv k (nanOf k t) = none := by
  refine cv_none ?_
  cases k
  · show 0x7f800000 < ((t % 2) * 2 ^ 31 + 0x7f800000 + 1 + (t / 2) % (2 ^ 23 - 1)) % 2147483648
    have h1 : (t / 2) % (2 ^ 23 - 1) < 2 ^ 23 - 1 := Nat.mod_lt _ (by decide)
    generalize (t / 2) % (2 ^ 23 - 1) = c at h1
    have h2 : t % 2 < 2 := Nat.mod_lt _ (by decide)
    generalize t % 2 = d at h2
    rw [show d * 2 ^ 31 + 0x7f800000 + 1 + c = (0x7f800000 + 1 + c) + d * 2147483648 by omega, Nat.add_mul_mod_self_right, Nat.mod_eq_of_lt (by omega)]
    omega
  · show 0x7ff0000000000000 < ((t % 2) * 2 ^ 63 + 0x7ff0000000000000 + 1 + (t / 2) % (2 ^ 52 - 1)) % 9223372036854775808
    have h1 : (t / 2) % (2 ^ 52 - 1) < 2 ^ 52 - 1 := Nat.mod_lt _ (by decide)
    generalize (t / 2) % (2 ^ 52 - 1) = c at h1
    have h2 : t % 2 < 2 := Nat.mod_lt _ (by decide)
    generalize t % 2 = d at h2
    rw [show d * 2 ^ 63 + 0x7ff0000000000000 + 1 + c = (0x7ff0000000000000 + 1 + c) + d * 9223372036854775808 by omega, Nat.add_mul_mod_self_right, Nat.mod_eq_of_lt (by omega)]
    omega

theorem nanOf_lt (k : FloatKind) (t : Nat) : nanOf k t < 2 ^ k.format.width := by
  cases k
  · show (t % 2) * 2 ^ 31 + 0x7f800000 + 1 + (t / 2) % (2 ^ 23 - 1) < 4294967296
    omega
  · show (t % 2) * 2 ^ 63 + 0x7ff0000000000000 + 1 + (t / 2) % (2 ^ 52 - 1) < 18446744073709551616
    omega

theorem floatBits_lt {op : BinOp} {k : FloatKind} {x y r : Nat} (h : floatBits op k x y = some r) : r < 2 ^ k.format.width := by
  unfold floatBits at h
  split at h
  · exact k.format.add_lt h
  · exact k.format.sub_lt h
  · exact k.format.mul_lt h
  · exact k.format.div_lt h
  · cases h

theorem run_arith {P : Program} {op : BinOp} (h : op = .add ∨ op = .sub ∨ op = .mul ∨ op = .quo) (t : TypeId) (k : FloatKind) (a b : Nat) (w : World) :
    ∃ r n, (binOp op t (.float k a) (.float k b)).run P w = .ok (.float k r) (w.drewN n) ∧ kcv k r = vop op k (kcv k a) (kcv k b) ∧ r < 2 ^ k.format.width := by
  rw [← vop_bits h]
  cases hb : floatBits op k a b with
  | some r => exact ⟨r, 0, run_float_arith w op t k a b r hb, floatBits_cv hb, floatBits_lt hb⟩
  | none =>
    refine ⟨nanOf k (w.tape w.drawn (.nanBits k a b)), 1, ?_, nanOf_cv k _, nanOf_lt k _⟩
    unfold floatBits at hb
    rcases h with rfl | rfl | rfl | rfl <;> simp only at hb <;> cases k <;>
      simp [binOp, Op.floatArith, hb, nanOf, choose, Sem.run, Question.forced, Question.cut, World.drewN]
end Go.Flo
namespace Go.Flo
open Go.RowKit

theorem wpList_arith {P : Program} {ops : Array Oper} {rest : List Oper} {o : Oper} {a : Act} {w : World} {Q : Exit → Act → World → Prop} (hgd : o.guard = none)
    (op : BinOp) (t u : TypeId) (X Y : Operand) (ho : o.op = .binOp op t X Y u) (h4 : op = .add ∨ op = .sub ∨ op = .mul ∨ op = .quo)
    (k : FloatKind) (x y : Nat) (hx : a.eval X = .float k x) (hy : a.eval Y = .float k y)
    (h : ∀ r n, Hid (kcv k r = vop op k (kcv k x) (kcv k y)) → wpList P ops Q rest (a.put o.dst (.float k r)) (w.drewN n)) : wpList P ops Q (o :: rest) a w := by
  obtain ⟨r, n, hrun, hcv, _⟩ := run_arith (P := P) h4 t k x y w
  refine wpList_plain hgd fun K hK => ?_
  have heq : (eqGuard op t X Y (.float k x) (.float k y)).run P w = .ok () w := by
    rcases h4 with rfl | rfl | rfl | rfl <;> rfl
  unfold Oper.wp execOp
  simp only [ho, hx, hy, Sem.run_bind, heq, hrun, Result.andThen_ok, Sem.run_pure]
  exact hK _ _ (h r n hcv)

section
variable {P : Program} {w : World} {a : Addr} {m : Mode}
@[go_sem] theorem run_store_float (k : FloatKind) (n : Nat) : (store a (.float k n) m).run P w = stored P w a (.float k n) m := run_store P w a _ m rfl
end

theorem order_refl {f : Ieee.Format} (hg : Good f) {x : Nat} (h : rung f x ≤ f.infRung) : f.order x x = some .eq := by
  rw [order_key hg h h, cmp_eq]

/-! narrow numbers made wide -/
def wide (x : Option Nat) : Option Nat := x.bind fun b => floatToFloatBits .f32 b .f64

theorem pow_split {a b c : Nat} (h : a + b = c) : 2 ^ a * 2 ^ b = 2 ^ c := by rw [← Nat.pow_add, h]

theorem val_top (f : Ieee.Format) {d e : Nat} (h : f.fractionBits + d = e) : val f.binade ((d + 1) * f.binade) = 2 ^ e := by
  have h1 := val_at (b := f.binade) (d := d) (k := f.binade) (binade_pos f) (by omega) (.inr (Nat.le_refl _))
  rw [Nat.succ_mul]
  exact h1.trans (pow_split h)

theorem wide_fits {A : Nat} (hA : A = 277) {mag : Nat} {place : Int} (h : Ieee.single.leastPlace ≤ place) (hv : mag * 2 ^ (place - Ieee.single.leastPlace).toNat < 2 ^ A) :
    rungOf Ieee.double mag place < Ieee.double.infRung := by
  have hl : Ieee.single.leastPlace = -149 := by decide
  have hd : Ieee.double.leastPlace = -1074 := by decide
  rw [hl] at h hv
  refine Nat.lt_of_le_of_lt (rung_le Ieee.double (R := (1150 + 1) * Ieee.double.binade) ?_) (by decide)
  have hf : Ieee.double.fractionBits = 52 := rfl
  obtain ⟨B, hB⟩ : ∃ B, B = 925 := ⟨_, rfl⟩
  have hv2 : val Ieee.double.binade ((1150 + 1) * Ieee.double.binade) = 2 ^ A * 2 ^ B := (val_top Ieee.double (d := 1150) (by rw [hf, hA, hB])).trans (Nat.pow_add 2 A B)
  rw [hd, show (-1074 - place).toNat = 0 by clear hv hv2; omega, Nat.pow_zero, Nat.mul_one, hv2]
  have e : (place - -1074).toNat = (place - -149).toNat + B := by clear hv hv2; omega
  rw [e, Nat.pow_add, ← Nat.mul_assoc]
  exact Nat.mul_le_mul_right _ (Nat.le_of_lt hv)

theorem val_single_lt {A : Nat} (hA : A = 277) {r : Nat} (h : r < Ieee.single.infRung) : val Ieee.single.binade r < 2 ^ A := by
  have h1 := val_mono (binade_pos Ieee.single) h
  have hf : Ieee.single.fractionBits = 23 := rfl
  have h2 : val Ieee.single.binade ((254 + 1) * Ieee.single.binade) = 2 ^ A := val_top Ieee.single (d := 254) (by rw [hf, hA])
  have h3 : (254 + 1) * Ieee.single.binade = Ieee.single.infRung := by decide
  rw [h3] at h2
  rw [h2] at h1
  exact h1

theorem isInfinity_write {f : Ieee.Format} {n : Bool} {mag : Nat} {place : Int} (h : rungOf f mag place < f.infRung) : (f.read (f.write (.number n mag place))).isInfinity = false := by
  have hr := (rung_write_number f n mag place).1
  obtain ⟨m, p, e, _⟩ := read_number f (w := f.write (.number n mag place)) (by omega)
  rw [e]; rfl

theorem f2f_lt {s k : FloatKind} {b r : Nat} (hs : s ≠ k) (h : floatToFloatBits s b k = some r) : r < 2 ^ k.format.width := by
  unfold floatToFloatBits at h
  rw [if_neg hs] at h
  split at h
  · cases h
  · cases h; exact k.format.write_lt _
  · split at h
    · cases h
    · cases h; exact k.format.write_lt _

theorem run_widen {P : Program} (src dst : TypeId) (b : Nat) (w : World) (hs : (P.underlying src).isSome = true) (hd : P.underlying dst = some (.float .f64)) :
    ∃ r n, (convert src dst (.float .f32 b)).run P w = .ok (.float .f64 r) (w.drewN n) ∧ kcv .f64 r = wide (kcv .f32 b) ∧ r < 2 ^ FloatKind.f64.format.width := by
  rcases cv_cases FloatKind.f32.format b with ⟨h1, g1⟩ | ⟨h1, g1⟩
  · refine ⟨nanOf .f64 (w.tape w.drawn (.nanConv .f64 b)), 1, ?_, ?_, nanOf_lt _ _⟩
    · obtain ⟨u, hs'⟩ := Option.isSome_iff_exists.1 hs
      have e := read_nan (good .f32) g1
      have e' : FloatKind.f32.decode b = _ := e
      cases u <;> simp [convert, run_underlying hs', run_underlying hd, Conv.floatToFloat, e', choose, Sem.run, Question.forced, Question.cut, World.drewN, nanOf]
    · rw [nanOf_cv]; unfold kcv; rw [h1]; rfl
  · have key : ∃ r, floatToFloatBits .f32 b .f64 = some r ∧ rung Ieee.double r ≤ Ieee.double.infRung := by
      rcases Nat.lt_or_ge (rung FloatKind.f32.format b) FloatKind.f32.format.infRung with g | g
      · obtain ⟨m, p, e, hp, hv⟩ := read_number _ g
        have e' : FloatKind.f32.decode b = _ := e
        have hf : rungOf Ieee.double m p < Ieee.double.infRung := wide_fits rfl hp (Nat.lt_of_le_of_lt (Nat.le_of_eq hv) (val_single_lt rfl g))
        have hi : (FloatKind.f64.decode (FloatKind.f64.encode (.number (neg FloatKind.f32.format b) m p))).isInfinity = false := isInfinity_write hf
        refine ⟨FloatKind.f64.encode (.number (neg FloatKind.f32.format b) m p), ?_, ?_⟩
        · simp [floatToFloatBits, e', hi]
        · exact rung_write_le Ieee.double trivial
      · have e := read_inf (good .f32) (w := b) (by omega)
        have e' : FloatKind.f32.decode b = _ := e
        refine ⟨FloatKind.f64.encode (.infinity (neg FloatKind.f32.format b)), ?_, ?_⟩
        · simp [floatToFloatBits, e']
        · exact rung_write_le Ieee.double trivial
    obtain ⟨r, hr, hc⟩ := key
    refine ⟨r, 0, run_convert_float_float w src dst .f32 .f64 b r hs hd hr, ?_, f2f_lt (by decide) hr⟩
    unfold kcv; rw [h1]
    show cv _ r = (some b).bind _
    rw [Option.bind_some, hr]
    exact cv_some hc

theorem wpList_widen {P : Program} {ops : Array Oper} {rest : List Oper} {o : Oper} {a : Act} {w : World} {Q : Exit → Act → World → Prop} (hgd : o.guard = none)
    (t u : TypeId) (X : Operand) (ho : o.op = .convert t u X) (x : Nat) (hx : a.eval X = .float .f32 x) (ht : (P.underlying t).isSome = true) (hu : P.underlying u = some (.float .f64))
    (h : ∀ r n, Hid (kcv .f64 r = wide (kcv .f32 x) ∧ r < 2 ^ FloatKind.f64.format.width) → wpList P ops Q rest (a.put o.dst (.float .f64 r)) (w.drewN n)) : wpList P ops Q (o :: rest) a w := by
  obtain ⟨r, n, hrun, hcv⟩ := run_widen (P := P) t u x w ht hu
  refine wpList_plain hgd fun K hK => ?_
  unfold Oper.wp execOp
  simp only [ho, hx, Sem.run_bind, hrun, Result.andThen_ok, Sem.run_pure]
  exact hK _ _ (h r n hcv)

/-! wide numbers made narrow -/
def narrow (x : Option Nat) : Option Nat := x.bind fun b => floatToFloatBits .f64 b .f32
/-- the conversion gives a number (or was asked of a NaN) -/
def NarrowOk (x : Option Nat) : Prop := ∀ b, x = some b → ∃ r, floatToFloatBits .f64 b .f32 = some r

theorem f2f_cv {s k : FloatKind} {b r : Nat} (hs : s ≠ k) (h : floatToFloatBits s b k = some r) : kcv k r = some r := by
  refine cv_some ?_
  unfold floatToFloatBits at h
  rw [if_neg hs] at h
  split at h
  · cases h
  · cases h; exact rung_write_le _ trivial
  · split at h
    · cases h
    · cases h; exact rung_write_le _ trivial

theorem run_narrow {P : Program} (src dst : TypeId) (b : Nat) (w : World) (hs : (P.underlying src).isSome = true) (hd : P.underlying dst = some (.float .f32)) (hok : NarrowOk (kcv .f64 b)) :
    ∃ r n, (convert src dst (.float .f64 b)).run P w = .ok (.float .f32 r) (w.drewN n) ∧ kcv .f32 r = narrow (kcv .f64 b) := by
  rcases cv_cases FloatKind.f64.format b with ⟨h1, g1⟩ | ⟨h1, g1⟩
  · refine ⟨nanOf .f32 (w.tape w.drawn (.nanConv .f32 b)), 1, ?_, ?_⟩
    · obtain ⟨u, hs'⟩ := Option.isSome_iff_exists.1 hs
      have e := read_nan (good .f64) g1
      have e' : FloatKind.f64.decode b = _ := e
      cases u <;> simp [convert, run_underlying hs', run_underlying hd, Conv.floatToFloat, e', choose, Sem.run, Question.forced, Question.cut, World.drewN, nanOf]
    · rw [nanOf_cv]; unfold kcv; rw [h1]; rfl
  · obtain ⟨r, hr⟩ := hok b h1
    refine ⟨r, 0, run_convert_float_float w src dst .f64 .f32 b r hs hd hr, ?_⟩
    rw [f2f_cv (by decide) hr]; unfold kcv; rw [h1]
    exact hr.symm

theorem wpList_narrow {P : Program} {ops : Array Oper} {rest : List Oper} {o : Oper} {a : Act} {w : World} {Q : Exit → Act → World → Prop} (hgd : o.guard = none)
    (t u : TypeId) (X : Operand) (ho : o.op = .convert t u X) (x : Nat) (hx : a.eval X = .float .f64 x) (ht : (P.underlying t).isSome = true) (hu : P.underlying u = some (.float .f32)) (hok : NarrowOk (kcv .f64 x))
    (h : ∀ r n, Hid (kcv .f32 r = narrow (kcv .f64 x)) → wpList P ops Q rest (a.put o.dst (.float .f32 r)) (w.drewN n)) : wpList P ops Q (o :: rest) a w := by
  obtain ⟨r, n, hrun, hcv⟩ := run_narrow (P := P) t u x w ht hu hok
  refine wpList_plain hgd fun K hK => ?_
  unfold Oper.wp execOp
  simp only [ho, hx, Sem.run_bind, hrun, Result.andThen_ok, Sem.run_pure]
  exact hK _ _ (h r n hcv)

/-! the square root -/
theorem run_sqrt {P : Program} {f : FuncId} (he : ∀ (args : Array Value) (w : World), (callFunc f args).run P w = ((Extern.MathSqrt.sqrt args).run P w).andThen fun v w' => .ok (.value v) w') (b : Nat) (w : World) :
    ∃ r n, (callFunc f #[.float .f64 b]).run P w = .ok (.value (.float .f64 r)) (w.drewN n) ∧ kcv .f64 r = vsqrt FloatKind.f64.format (kcv .f64 b) := by
  have hs := vsqrt_cv (good .f64) b
  cases h : FloatKind.f64.format.sqrt b with
  | some r =>
    refine ⟨r, 0, ?_, ?_⟩
    · rw [he]
      change (Sem.run P (match FloatKind.f64.format.sqrt b with | some r => pure (Value.float .f64 r) | none => (choose (.nanBits .f64 b b)).bind fun n => pure (Value.float .f64 n)) w).andThen _ = _
      rw [h]; rfl
    · unfold kcv; rw [hs, h]; exact cv_some (sqrt_rung h)
  | none =>
    refine ⟨nanOf .f64 (w.tape w.drawn (.nanBits .f64 b b)), 1, ?_, ?_⟩
    · rw [he]
      change (Sem.run P (match FloatKind.f64.format.sqrt b with | some r => pure (Value.float .f64 r) | none => (choose (.nanBits .f64 b b)).bind fun n => pure (Value.float .f64 n)) w).andThen _ = _
      rw [h]; rfl
    · rw [nanOf_cv]; unfold kcv; rw [hs, h]
end Go.Flo
