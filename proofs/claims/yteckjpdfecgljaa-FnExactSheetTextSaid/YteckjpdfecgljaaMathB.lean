/- Plain facts: a square root can be made narrow; what is too small. -/
import Derived.Test.YteckjpdfecgljaaMathA
namespace Go.Proofs.Yteckjpdfecgljaa
open Go.RowKit Go.Flo
set_option linter.unusedSimpArgs false

theorem rootFrom_le (n : Nat) : ∀ t r, Ieee.Datum.rootFrom n t r + 1 ≤ r + 2 ^ t := by
  intro t
  induction t with
  | zero => intro r; simp [Ieee.Datum.rootFrom]
  | succ t ih =>
    intro r
    unfold Ieee.Datum.rootFrom
    simp only [Nat.one_shiftLeft]
    have h1 := ih (r + 2 ^ t)
    have h2 := ih r
    have h3 : 2 ^ (t + 1) = 2 ^ t + 2 ^ t := by rw [Nat.pow_succ]; omega
    have h4 := Nat.two_pow_pos t
    split <;> omega

theorem root_bound {s : Bool} {m : Nat} {i : Int} {d : Ieee.Datum} (h : Ieee.Datum.root 54 (.number s m i) = some d) (hm : m < 2 ^ 53) (hi : i ≤ 76) :
    ∃ n M j, d = .number n M j ∧ (M = 0 ∨ (M < 2 ^ 58 ∧ j ≤ 38)) := by
  simp only [Ieee.Datum.root] at h
  split at h
  · cases h; exact ⟨_, _, _, rfl, .inl (by assumption)⟩
  · rename_i hm0
    split at h
    · cases h
    · cases h
      refine ⟨_, _, _, rfl, .inr ⟨?_, ?_⟩⟩
      · have hl : m.log2 < 53 := (Nat.log2_lt hm0).2 hm
        generalize hmore : 2 * 54 - m.log2 + ((i - (2 * 54 - m.log2 : Nat)) % 2).toNat = more
        have hmore2 : more ≤ 109 - m.log2 := by omega
        have hn : m <<< more < 2 ^ 110 := by
          rw [Nat.shiftLeft_eq]
          have h1 : m < 2 ^ (m.log2 + 1) := Nat.lt_log2_self
          have h2 : m * 2 ^ more < 2 ^ (m.log2 + 1) * 2 ^ more := Nat.mul_lt_mul_of_pos_right h1 (Nat.two_pow_pos _)
          rw [← Nat.pow_add] at h2
          exact Nat.lt_of_lt_of_le h2 (Nat.pow_le_pow_right (by omega) (by omega))
        have h0 : m <<< more ≠ 0 := by
          rw [Nat.shiftLeft_eq]
          have := Nat.mul_pos (Nat.pos_of_ne_zero hm0) (Nat.two_pow_pos more)
          omega
        have hlog : (m <<< more).log2 < 110 := (Nat.log2_lt h0).2 hn
        have hr := rootFrom_le (m <<< more) ((m <<< more).log2 / 2 + 1) 0
        have hp : 2 ^ ((m <<< more).log2 / 2 + 1) ≤ 2 ^ 55 := Nat.pow_le_pow_right (by omega) (by omega)
        have hb : ∀ c : Bool, c.toNat ≤ 1 := by decide
        have hb' := hb (Ieee.Datum.rootFrom (m <<< more) ((m <<< more).log2 / 2 + 1) 0 * Ieee.Datum.rootFrom (m <<< more) ((m <<< more).log2 / 2 + 1) 0 != m <<< more)
        generalize Ieee.Datum.rootFrom (m <<< more) ((m <<< more).log2 / 2 + 1) 0 = whole at *
        generalize (whole * whole != m <<< more).toNat = c at *
        omega
      · generalize ((i - (2 * 54 - m.log2 : Nat)) % 2).toNat = q
        omega

theorem val_double {A d : Nat} (hA : 52 + d = A) : val Ieee.double.binade ((d + 1) * Ieee.double.binade) = 2 ^ A := val_top Ieee.double hA
theorem val_single {A d : Nat} (hA : 23 + d = A) : val Ieee.single.binade ((d + 1) * Ieee.single.binade) = 2 ^ A := val_top Ieee.single hA

/-- a wide number that is not too great can be made narrow -/
theorem narrow_ok {b A B : Nat} (hA : A = 245) (hB : B = 1170) (h : rung Ieee.double b ≤ (1118 + 1) * Ieee.double.binade) : ∃ r, floatToFloatBits .f64 b .f32 = some r := by
  have hv : val Ieee.double.binade ((1118 + 1) * Ieee.double.binade) = 2 ^ B := val_double (by rw [hB])
  have hinf : (1118 + 1) * Ieee.double.binade < Ieee.double.infRung := by decide
  obtain ⟨m, p, e, hp, hval⟩ := read_number Ieee.double (w := b) (by omega)
  have hle : val Ieee.double.binade (rung Ieee.double b) ≤ 2 ^ B := by
    rw [← hv]; exact (val_le (binade_pos _)).2 h
  have hR : val Ieee.single.binade ((222 + 1) * Ieee.single.binade) = 2 ^ A := val_single (by rw [hA])
  have hf : rungOf Ieee.single m p < Ieee.single.infRung := by
    refine Nat.lt_of_le_of_lt (rung_le Ieee.single (R := (222 + 1) * Ieee.single.binade) ?_) (by decide)
    rw [hR, ← Nat.pow_add]
    rw [← hval] at hle
    have hl : Ieee.single.leastPlace = -149 := by decide
    have hd : Ieee.double.leastPlace = -1074 := by decide
    rw [hd] at hle hp
    rw [hl]
    have hle' : m * 2 ^ (p - -1074).toNat ≤ 1 * 2 ^ B := by rw [Nat.one_mul]; exact hle
    have := (scale (e3 := (p - -149).toNat) (e4 := A + (-149 - p).toNat) (by clear hle hle' hval hv hR; omega)).1 hle'
    rw [Nat.one_mul] at this
    exact this
  have e' : FloatKind.f64.decode b = _ := e
  have hi : (FloatKind.f32.decode (FloatKind.f32.encode (.number (neg Ieee.double b) m p))).isInfinity = false := isInfinity_write hf
  exact ⟨_, by simp [floatToFloatBits, e', hi]; rfl⟩

theorem narrow_ok_inf {b : Nat} (h : rung Ieee.double b = Ieee.double.infRung) : ∃ r, floatToFloatBits .f64 b .f32 = some r := by
  have e := read_inf good_double h
  have e' : FloatKind.f64.decode b = _ := e
  exact ⟨_, by simp [floatToFloatBits, e']; rfl⟩

/-- what a finite narrow number is, made wide -/
theorem wide_some {b : Nat} (h : rung Ieee.single b < Ieee.single.infRung) : ∃ r m p, wide (some b) = some r ∧ rung Ieee.double r = rungOf Ieee.double m p ∧ neg Ieee.double r = neg Ieee.single b ∧
    Ieee.single.leastPlace ≤ p ∧ m * 2 ^ (p - Ieee.single.leastPlace).toNat = val Ieee.single.binade (rung Ieee.single b) := by
  obtain ⟨m, p, e, hp, hv⟩ := read_number Ieee.single h
  have e' : FloatKind.f32.decode b = _ := e
  have hf : rungOf Ieee.double m p < Ieee.double.infRung := wide_fits rfl hp (Nat.lt_of_le_of_lt (Nat.le_of_eq hv) (val_single_lt rfl h))
  have hi : (FloatKind.f64.decode (FloatKind.f64.encode (.number (neg Ieee.single b) m p))).isInfinity = false := isInfinity_write hf
  have hr := rung_write_number Ieee.double (neg Ieee.single b) m p
  exact ⟨FloatKind.f64.encode (.number (neg Ieee.single b) m p), m, p, by simp [wide, floatToFloatBits, e', hi], hr.1, hr.2, hp, hv⟩

theorem wide_le {b r R E : Nat} (hE : E = 925) (h : rung Ieee.single b < Ieee.single.infRung) (hw : wide (some b) = some r) (hR : val Ieee.single.binade (rung Ieee.single b) * 2 ^ E ≤ val Ieee.double.binade R) : rung Ieee.double r ≤ R := by
  obtain ⟨r', m, p, e, hr, _, hp, hv⟩ := wide_some h
  rw [hw] at e; cases e
  rw [hr]
  refine rung_le Ieee.double ?_
  have hl : Ieee.single.leastPlace = -149 := by decide
  have hd : Ieee.double.leastPlace = -1074 := by decide
  rw [hl] at hp hv
  rw [hd, show (-1074 - p).toNat = 0 by clear hR hv; omega, Nat.pow_zero, Nat.mul_one]
  have e2 : (p - -1074).toNat = (p - -149).toNat + E := by clear hR hv; omega
  rw [e2, Nat.pow_add, ← Nat.mul_assoc, hv]
  exact hR

theorem wide_ge {b r R E : Nat} (hE : E = 925) (h : rung Ieee.single b < Ieee.single.infRung) (hw : wide (some b) = some r) (hinf : R ≤ Ieee.double.infRung) (hR : val Ieee.double.binade R ≤ val Ieee.single.binade (rung Ieee.single b) * 2 ^ E) : R ≤ rung Ieee.double r := by
  obtain ⟨r', m, p, e, hr, _, hp, hv⟩ := wide_some h
  rw [hw] at e; cases e
  rw [hr]
  refine rung_ge Ieee.double hinf ?_
  have hl : Ieee.single.leastPlace = -149 := by decide
  have hd : Ieee.double.leastPlace = -1074 := by decide
  rw [hl] at hp hv
  rw [hd, show (-1074 - p).toNat = 0 by clear hR hv; omega, Nat.pow_zero, Nat.mul_one]
  have e2 : (p - -1074).toNat = (p - -149).toNat + E := by clear hR hv; omega
  rw [e2, Nat.pow_add, ← Nat.mul_assoc, hv]
  exact hR
end Go.Proofs.Yteckjpdfecgljaa
