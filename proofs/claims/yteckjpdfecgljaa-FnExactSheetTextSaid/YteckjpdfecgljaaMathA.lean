/- Plain facts on canonical values: which are finite, small, or plain. -/
import Derived.Test.YteckjpdfecgljaaBase
namespace Go.Proofs.Yteckjpdfecgljaa
open Go.RowKit Go.Flo
set_option linter.unusedSimpArgs false

theorem some_of {b : Nat} (h : rung Ieee.single b ≤ Ieee.single.infRung) : kcv .f32 b = some b := cv_some h
theorem none_of {b : Nat} (h : Ieee.single.infRung < rung Ieee.single b) : kcv .f32 b = none := cv_none h
theorem cases32 (b : Nat) : (kcv .f32 b = none) ∨ (kcv .f32 b = some b ∧ rung Ieee.single b ≤ Ieee.single.infRung) := by
  rcases cv_cases Ieee.single b with ⟨h, _⟩ | ⟨h, g⟩
  · exact .inl h
  · exact .inr ⟨h, g⟩
theorem inf32 : Ieee.single.infRung = 2139095040 := by decide

theorem ord_some {a c : Nat} (ha : rung Ieee.single a ≤ Ieee.single.infRung) (hc : rung Ieee.single c ≤ Ieee.single.infRung) :
    vord FloatKind.f32.format (some a) (some c) = some (compare (key Ieee.single a) (key Ieee.single c)) := order_key good_single ha hc
theorem vord_none_left (f : Ieee.Format) (x : V) : vord f none x = none := by cases x <;> rfl
theorem vord_none_right (f : Ieee.Format) (x : V) : vord f x none = none := by cases x <;> rfl

theorem some_beq (a b : Ordering) : (some a == some b) = (a == b) := by cases a <;> cases b <;> rfl
theorem ge_some {a c : Nat} (ha : rung Ieee.single a ≤ Ieee.single.infRung) (hc : rung Ieee.single c ≤ Ieee.single.infRung) : ge (some a) (some c) = decide (key Ieee.single c ≤ key Ieee.single a) := by
  unfold ge
  rw [ord_some ha hc]
  rcases Int.lt_trichotomy (key Ieee.single a) (key Ieee.single c) with h | h | h
  · rw [cmp_lt h]; simp; omega
  · rw [h, cmp_eq]; simp
  · rw [cmp_gt h]; simp; omega
theorem le_some {a c : Nat} (ha : rung Ieee.single a ≤ Ieee.single.infRung) (hc : rung Ieee.single c ≤ Ieee.single.infRung) : le (some a) (some c) = decide (key Ieee.single a ≤ key Ieee.single c) := by
  unfold le
  rw [ord_some ha hc]
  rcases Int.lt_trichotomy (key Ieee.single a) (key Ieee.single c) with h | h | h
  · rw [cmp_lt h]; simp; omega
  · rw [h, cmp_eq]; simp
  · rw [cmp_gt h]; simp; omega
theorem ge_none (x : V) : ge none x = false := by unfold ge; rw [vord_none_left]; rfl
theorem le_none (x : V) : le none x = false := by unfold le; rw [vord_none_left]; rfl

theorem key_bounds (a : Nat) : -(rung Ieee.single a : Int) ≤ key Ieee.single a ∧ key Ieee.single a ≤ rung Ieee.single a := by
  unfold key; split <;> omega
theorem key_abs (a : Nat) : key Ieee.single a = -(rung Ieee.single a : Int) ∨ key Ieee.single a = rung Ieee.single a := by
  unfold key; split
  · exact .inl rfl
  · exact .inr rfl

theorem fin_some {a : Nat} (ha : rung Ieee.single a ≤ Ieee.single.infRung) : finV (some a) = decide (rung Ieee.single a < Ieee.single.infRung) := by
  have h1 : c32 4286578687 = some 4286578687 := by kernel_rfl
  have h2 : c32 2139095039 = some 2139095039 := by kernel_rfl
  have k1 : key Ieee.single 4286578687 = -2139095039 := by decide
  have k2 : key Ieee.single 2139095039 = 2139095039 := by decide
  unfold finV
  rw [h1, h2, ge_some ha (by decide), le_some ha (by decide), k1, k2, inf32]
  rw [inf32] at ha
  rcases key_abs a with h | h <;> rw [h] <;> rw [Bool.eq_iff_iff] <;> simp only [Bool.and_eq_true, decide_eq_true_eq] <;> omega
theorem fin_none : finV none = false := by unfold finV; rw [ge_none]; rfl

theorem fin_iff {b : Nat} : finV (kcv .f32 b) = true ↔ rung Ieee.single b < Ieee.single.infRung := by
  rcases cases32 b with h | ⟨h, g⟩
  · rw [h, fin_none]
    have := cv_eq_none h
    constructor
    · intro h; cases h
    · intro h'; have h3 : Ieee.single.infRung < rung Ieee.single b := this; omega
  · rw [h, fin_some g]; simp

/-- a - a is 0 just where a is finite -/
def finS (x : V) : Bool := eqf (sub x x) (c32 0)
theorem sub_self_num {f : Ieee.Format} {a : Nat} (h : rung f a < f.infRung) : f.sub a a = some 0 := by
  obtain ⟨m, p, e, _⟩ := read_number f h
  unfold Ieee.Format.sub
  rw [e]
  have : ∀ s : Bool, Ieee.signed s m (p - min p p).toNat + Ieee.signed (!s) m (p - min p p).toNat = 0 := by
    intro s; cases s <;> simp [Ieee.signed] <;> omega
  simp only [Ieee.Datum.opposite, Ieee.Datum.sum, this, Option.map_some, if_true, Int.natAbs_zero]
  have e2 : (neg f a && !neg f a) = false := by cases neg f a <;> rfl
  rw [e2, write_number]
  unfold rungOf; rw [if_pos rfl]; rfl
theorem finS_eq (b : Nat) : finS (kcv .f32 b) = finV (kcv .f32 b) := by
  rcases cases32 b with h | ⟨h, g⟩
  · rw [h, fin_none]; rfl
  · rw [h, fin_some g]
    rcases Nat.lt_or_ge (rung Ieee.single b) Ieee.single.infRung with g2 | g2
    · have e : sub (some b) (some b) = some 0 := sub_self_num g2
      have z : eqf (some 0) (c32 0) = true := by kernel_rfl
      unfold finS; rw [e, z]; simp [g2]
    · have e : sub (some b) (some b) = none := by
        have h3 := read_inf good_single (w := b) (by omega)
        show Ieee.single.sub b b = none
        unfold Ieee.Format.sub
        rw [h3]; cases neg Ieee.single b <;> rfl
      unfold finS; rw [e]
      have : ¬ rung Ieee.single b < Ieee.single.infRung := by omega
      simp [this, eqf, vord_none_left]
end Go.Proofs.Yteckjpdfecgljaa
