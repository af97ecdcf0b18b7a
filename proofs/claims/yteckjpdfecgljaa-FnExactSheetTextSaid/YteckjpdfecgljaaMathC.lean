/- Plain facts: the narrow square root; what is too small to divide by it. -/
import Derived.Test.YteckjpdfecgljaaMathB
namespace Go.Proofs.Yteckjpdfecgljaa
open Go.RowKit Go.Flo
set_option linter.unusedSimpArgs false

theorem read_double {r : Nat} (h : rung Ieee.double r ≤ (1150 + 1) * Ieee.double.binade) : ∃ m i, Ieee.double.read r = .number (neg Ieee.double r) m i ∧ m < 2 ^ 53 ∧ i ≤ 76 := by
  have hb : Ieee.double.binade = 4503599627370496 := by decide
  have hi : Ieee.double.infRung = 9218868437227405312 := by decide
  have hl : Ieee.double.leastPlace = -1074 := by decide
  unfold rung at h
  rw [hb] at h
  unfold Ieee.Format.read
  simp only [hb, hi, hl]
  split
  · exact ⟨_, _, rfl, by omega, by omega⟩
  · split
    · exact ⟨_, _, rfl, by omega, by omega⟩
    · omega

theorem sqrt_rung {r q A : Nat} (hA : A = 1170) (h : rung Ieee.double r ≤ (1150 + 1) * Ieee.double.binade) (hq : Ieee.double.sqrt r = some q) : rung Ieee.double q ≤ (1118 + 1) * Ieee.double.binade := by
  obtain ⟨m, i, e, hm, hi⟩ := read_double h
  unfold Ieee.Format.sqrt at hq
  rw [e] at hq
  cases hd : Ieee.Datum.root (Ieee.double.fractionBits + 2) (.number (neg Ieee.double r) m i) with
  | none => rw [hd] at hq; cases hq
  | some d =>
    rw [hd] at hq
    obtain ⟨n, M, j, rfl, hM⟩ := root_bound hd hm hi
    cases hq
    rw [(rung_write_number Ieee.double n M j).1]
    rcases hM with rfl | ⟨h1, h2⟩
    · unfold rungOf; rw [if_pos rfl]; exact Nat.zero_le _
    · refine rung_le Ieee.double ?_
      rw [val_double (A := A) (by rw [hA])]
      have hl : Ieee.double.leastPlace = -1074 := by decide
      rw [hl, ← Nat.pow_add]
      refine Nat.le_trans (Nat.mul_le_mul_right _ (Nat.le_of_lt h1)) ?_
      rw [← Nat.pow_add]
      exact Nat.pow_le_pow_right (by omega) (by omega)

def rootV (x : V) : V := narrow (vsqrt FloatKind.f64.format (wide x))

theorem wide_small {b r B : Nat} (hB : B = 277) (h : rung Ieee.single b < Ieee.single.infRung) (hw : wide (some b) = some r) : rung Ieee.double r ≤ (1150 + 1) * Ieee.double.binade := by
  refine wide_le rfl h hw ?_
  rw [val_double (A := B + 925) (by rw [hB]), Nat.pow_add]
  exact Nat.mul_le_mul_right _ (Nat.le_of_lt (val_single_lt hB h))

theorem wide_inf {b : Nat} (h : rung Ieee.single b = Ieee.single.infRung) : ∃ r, wide (some b) = some r ∧ rung Ieee.double r = Ieee.double.infRung ∧ neg Ieee.double r = neg Ieee.single b := by
  have e := read_inf good_single h
  have e' : FloatKind.f32.decode b = _ := e
  have hr := rung_write_inf Ieee.double (neg Ieee.single b)
  exact ⟨FloatKind.f64.encode (.infinity (neg Ieee.single b)), by simp [wide, floatToFloatBits, e'], hr.1, hr.2⟩

theorem root_ok (b : Nat) : NarrowOk (vsqrt FloatKind.f64.format (wide (kcv .f32 b))) := by
  intro q hq
  rcases cases32 b with h | ⟨h, g⟩
  · rw [h] at hq; cases hq
  · rw [h] at hq
    rcases Nat.lt_or_ge (rung Ieee.single b) Ieee.single.infRung with g2 | g2
    · obtain ⟨r, m, p, e, _⟩ := wide_some g2
      rw [e] at hq
      exact narrow_ok rfl rfl (sqrt_rung rfl (wide_small rfl g2 e) hq)
    · obtain ⟨r, e, hr, _⟩ := wide_inf (b := b) (by omega)
      rw [e] at hq
      have hq' : Ieee.double.sqrt r = some q := hq
      unfold Ieee.Format.sqrt at hq'
      rw [read_inf good_double hr] at hq'
      cases hn : neg Ieee.double r <;> rw [hn] at hq' <;> cases hq'
      exact narrow_ok_inf (rung_write_inf Ieee.double false).1

/-! what is less than 1/1048576 in size -/
def absV (y : V) : V := y.map fun b => b % 2 ^ 63
def smallI (x : V) : Bool := vord FloatKind.f64.format (absV (wide x)) (c64 4517110426252607488) == some .lt
def smallS (x : V) : Bool := !(ge x (c32 897581056) || le x (c32 3045064704))

theorem smallI_none : smallI none = false := by unfold smallI; rw [show absV (wide none) = none from rfl, vord_none_left]; rfl
theorem smallS_none : smallS none = true := by unfold smallS; rw [ge_none, le_none]; rfl

theorem smallS_some {b : Nat} (h : rung Ieee.single b ≤ Ieee.single.infRung) : smallS (some b) = decide (rung Ieee.single b < 897581056) := by
  have h1 : c32 897581056 = some 897581056 := by kernel_rfl
  have h2 : c32 3045064704 = some 3045064704 := by kernel_rfl
  have k1 : key Ieee.single 897581056 = 897581056 := by decide
  have k2 : key Ieee.single 3045064704 = -897581056 := by decide
  unfold smallS
  rw [h1, h2, ge_some h (by decide), le_some h (by decide), k1, k2]
  rcases key_abs b with h | h <;> rw [h] <;> rw [Bool.eq_iff_iff] <;> simp only [Bool.or_eq_true, decide_eq_true_eq, Bool.not_eq_true', Bool.or_eq_false_iff, decide_eq_false_iff_not] <;> omega

theorem double_weight : Ieee.double.signWeight = 2 ^ 63 := by decide

theorem smallI_of {r : Nat} (hr : rung Ieee.double r ≤ Ieee.double.infRung) : (vord FloatKind.f64.format (some (r % 2 ^ 63)) (c64 4517110426252607488) == some .lt) = decide (rung Ieee.double r < 4517110426252607488) := by
  have h1 : c64 4517110426252607488 = some 4517110426252607488 := by kernel_rfl
  have e1 : rung Ieee.double (r % 2 ^ 63) = rung Ieee.double r := by
    unfold rung; rw [double_weight, Nat.mod_mod]
  have e2 : neg Ieee.double (r % 2 ^ 63) = false := by
    unfold neg; rw [double_weight, Nat.div_eq_of_lt (Nat.mod_lt _ (by decide))]; rfl
  have k1 : key Ieee.double 4517110426252607488 = 4517110426252607488 := by decide
  have k2 : key Ieee.double (r % 2 ^ 63) = rung Ieee.double r := by unfold key; rw [e1, e2]; rfl
  rw [h1]
  have o : vord FloatKind.f64.format (some (r % 2 ^ 63)) (some 4517110426252607488) = some (compare (key Ieee.double (r % 2 ^ 63)) (key Ieee.double 4517110426252607488)) := order_key good_double (by rw [e1]; exact hr) (by decide)
  rw [o, k1, k2]
  rcases Int.lt_trichotomy (rung Ieee.double r : Int) 4517110426252607488 with h | h | h
  · rw [cmp_lt h]; simp; omega
  · rw [h, cmp_eq]; simp; omega
  · rw [cmp_gt h]; simp; omega

theorem small_eq {b : Nat} (h : rung Ieee.single b ≤ Ieee.single.infRung) : smallI (some b) = smallS (some b) := by
  rw [smallS_some h]
  unfold smallI
  rcases Nat.lt_or_ge (rung Ieee.single b) Ieee.single.infRung with g | g
  · obtain ⟨r, m, p, e, _⟩ := wide_some g
    have hle := wide_small rfl g e
    have hinf : (1150 + 1) * Ieee.double.binade ≤ Ieee.double.infRung := by decide
    rw [e]
    show (vord _ (some (r % 2 ^ 63)) _ == _) = _
    rw [smallI_of (Nat.le_trans hle hinf)]
    rcases Nat.lt_or_ge (rung Ieee.single b) 897581056 with h1 | h1
    · have h2 : rung Ieee.double r ≤ 4517110426252607487 := by
        refine wide_le rfl g e ?_
        have h3 : val Ieee.single.binade (rung Ieee.single b) ≤ val Ieee.single.binade 897581055 := (val_le (binade_pos _)).2 (by omega)
        refine Nat.le_trans (Nat.mul_le_mul_right _ h3) ?_
        exact of_decide_eq_true (by kernel_rfl)
      simp [h1]; omega
    · have h2 : 4517110426252607488 ≤ rung Ieee.double r := by
        refine wide_ge rfl g e (by decide) ?_
        have h3 : val Ieee.single.binade 897581056 ≤ val Ieee.single.binade (rung Ieee.single b) := (val_le (binade_pos _)).2 h1
        refine Nat.le_trans ?_ (Nat.mul_le_mul_right _ h3)
        exact of_decide_eq_true (by kernel_rfl)
      have a1 : ¬ rung Ieee.double r < 4517110426252607488 := by omega
      have a2 : ¬ rung Ieee.single b < 897581056 := by omega
      simp [a1, a2]
  · obtain ⟨r, e, hr, _⟩ := wide_inf (b := b) (by omega)
    rw [e]
    show (vord _ (some (r % 2 ^ 63)) _ == _) = _
    rw [smallI_of (by omega), hr]
    have hi : ¬ Ieee.double.infRung < 4517110426252607488 := by decide
    rw [inf32] at g
    have hj : ¬ rung Ieee.single b < 897581056 := by omega
    simp [hi, hj]
end Go.Proofs.Yteckjpdfecgljaa
