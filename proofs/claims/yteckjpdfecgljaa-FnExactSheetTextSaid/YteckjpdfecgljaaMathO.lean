/- Plain facts: a wide number less the integer nearest to it. -/
import Derived.Test.YteckjpdfecgljaaMathN
namespace Go.Proofs.Yteckjpdfecgljaa
open Go.RowKit Go.Flo
set_option linter.unusedSimpArgs false

def rteB (b : Nat) : Nat := FloatKind.f64.encode ((FloatKind.f64.decode b).integral .even)
def rteV (x : V) : V := x.map rteB

theorem rungOf_exact {f : Ieee.Format} {mag : Nat} {place : Int} {R : Nat} (hR : R ≤ f.infRung) (h : mag * 2 ^ (place - f.leastPlace).toNat = val f.binade R * 2 ^ (f.leastPlace - place).toNat) : rungOf f mag place = R :=
  Nat.le_antisymm (rung_le f (Nat.le_of_eq h)) (rung_ge f hR (Nat.le_of_eq h.symm))

/-- a whole number that is not too large is a wide one -/
theorem whole_rung {c : Nat} (h : c ≤ 2 ^ 52) {E : Nat} (hE : E = 1074) : rungOf Ieee.double c 0 < Ieee.double.infRung ∧ val Ieee.double.binade (rungOf Ieee.double c 0) = c * 2 ^ E := by
  have hl : Ieee.double.leastPlace = -1074 := by decide
  have hb : Ieee.double.binade = 2 ^ 52 := rfl
  by_cases h0 : c = 0
  · subst h0
    have : rungOf Ieee.double 0 0 = 0 := by unfold rungOf; rw [if_pos rfl]
    rw [this]
    exact ⟨by decide, by rw [val_zero (binade_pos _)]; simp⟩
  · have l1 : c.log2 ≤ 52 := by
      have h1 := Nat.log2_self_le h0
      have h2 := Nat.le_trans h1 h
      exact (Nat.pow_le_pow_iff_right (a := 2) (by omega)).1 h2
    have l2 : 2 ^ c.log2 ≤ c := Nat.log2_self_le h0
    have l3 : c < 2 ^ (c.log2 + 1) := Nat.lt_log2_self
    generalize c.log2 = g at l1 l2 l3
    obtain ⟨k, hk⟩ : ∃ k, k = c * 2 ^ (52 - g) := ⟨_, rfl⟩
    obtain ⟨d, hd⟩ : ∃ d, d = 1022 + g := ⟨_, rfl⟩
    have k1 : Ieee.double.binade ≤ k := by
      rw [hb, hk, show (2 : Nat) ^ 52 = 2 ^ g * 2 ^ (52 - g) by rw [← Nat.pow_add]; congr 1; omega]
      exact Nat.mul_le_mul_right _ l2
    have k2 : k ≤ 2 * Ieee.double.binade := by
      rw [hb, hk, show 2 * (2 : Nat) ^ 52 = 2 ^ (g + 1) * 2 ^ (52 - g) by rw [← Nat.pow_add, Nat.mul_comm, ← Nat.pow_succ]; congr 1; omega]
      exact Nat.mul_le_mul_right _ (Nat.le_of_lt l3)
    have hv : val Ieee.double.binade (d * Ieee.double.binade + k) = c * 2 ^ E := by
      rw [val_at (binade_pos _) k2 (.inr k1), hk, Nat.mul_assoc, ← Nat.pow_add]
      congr 2; omega
    have hinf : d * Ieee.double.binade + k < Ieee.double.infRung := by
      have e1 : d * Ieee.double.binade ≤ 1074 * Ieee.double.binade := Nat.mul_le_mul_right _ (by omega)
      have e2 : Ieee.double.infRung = 2047 * Ieee.double.binade := by decide
      have e3 := binade_pos Ieee.double
      rw [e2]; omega
    have he : rungOf Ieee.double c 0 = d * Ieee.double.binade + k := by
      refine rungOf_exact (Nat.le_of_lt hinf) ?_
      rw [hv, hl]
      have q1 : ((0 : Int) - -1074).toNat = E := by rw [hE]; decide
      have q2 : (-1074 - (0 : Int)).toNat = 0 := by decide
      rw [q1, q2, Nat.pow_zero, Nat.mul_one]
    rw [he]; exact ⟨hinf, hv⟩

/-- what the nearest integer is: its sign, its size, and how far it is from the number -/
theorem rte_facts {r : Nat} (h : rung Ieee.double r ≤ (1150 + 1) * Ieee.double.binade) {E : Nat} (hE : E = 1074) :
    neg Ieee.double (rteB r) = neg Ieee.double r ∧ rung Ieee.double (rteB r) < Ieee.double.infRung ∧
    val Ieee.double.binade (rung Ieee.double (rteB r)) ≤ val Ieee.double.binade (rung Ieee.double r) + 2 ^ E ∧ val Ieee.double.binade (rung Ieee.double r) ≤ val Ieee.double.binade (rung Ieee.double (rteB r)) + 2 ^ E := by
  have hinf : (1150 + 1) * Ieee.double.binade < Ieee.double.infRung := by decide
  have hl : Ieee.double.leastPlace = -1074 := by decide
  obtain ⟨m, i, er, hm, hi⟩ := read_double h
  obtain ⟨m', i', er', hp, hv⟩ := read_number Ieee.double (w := r) (by omega)
  rw [er] at er'
  cases er'
  rw [hl] at hp hv
  have hrte : rteB r = Ieee.double.write (.number (neg Ieee.double r) (Ieee.Toward.even.cut (neg Ieee.double r) (m <<< i.toNat) (-i).toNat) 0) := by
    unfold rteB
    have : FloatKind.f64.decode r = .number (neg Ieee.double r) m i := er
    rw [this]; rfl
  rw [cut_neg] at hrte
  generalize hc : Ieee.Toward.even.cut false (m <<< i.toNat) (-i).toNat = c at hrte
  have hw := rung_write_number Ieee.double (neg Ieee.double r) c 0
  rw [← hrte] at hw
  rcases Int.lt_or_le i 0 with hneg | hpos
  · -- something is cut
    obtain ⟨k, hk⟩ : ∃ k : Nat, (k : Int) = -i := ⟨(-i).toNat, by omega⟩
    have e1 : (-i).toNat = k := by omega
    have e2 : i.toNat = 0 := by omega
    have e3 : (i - -1074).toNat = 1074 - k := by omega
    have hk1 : 1 ≤ k := by omega
    have hk2 : k ≤ 1074 := by omega
    rw [e1, e2, Nat.shiftLeft_zero] at hc
    rw [e3] at hv
    have hdm := Nat.div_add_mod m (2 ^ k)
    have ht := Nat.mod_lt m (Nat.two_pow_pos k)
    generalize m / 2 ^ k = q at hdm
    generalize m % 2 ^ k = t at hdm ht
    have c1 : q ≤ c := by rw [← hc]; exact cut_ge _ (by rw [Nat.mul_comm]; omega)
    have c2 : c ≤ q + 1 := by
      rw [← hc]
      refine cut_le _ ?_
      have : (q + 1) * 2 ^ k = 2 ^ k * q + 2 ^ k := by rw [Nat.add_mul, Nat.one_mul, Nat.mul_comm]
      omega
    have c3 : c ≤ 2 ^ 52 := by
      rw [← hc]
      refine cut_le _ ?_
      have : 2 ^ 53 ≤ 2 ^ 52 * 2 ^ k := by rw [← Nat.pow_add]; exact Nat.pow_le_pow_right (by omega) (by omega)
      omega
    obtain ⟨w1, w2⟩ := whole_rung c3 hE
    rw [← hw.1] at w1 w2
    refine ⟨hw.2, w1, ?_, ?_⟩
    all_goals
      rw [w2, ← hv]
      have hpow : 2 ^ E = 2 ^ k * 2 ^ (1074 - k) := by rw [← Nat.pow_add]; congr 1; omega
      have hX : m * 2 ^ (1074 - k) = q * 2 ^ E + t * 2 ^ (1074 - k) := by
        rw [hpow, ← hdm, Nat.add_mul]; congr 1; rw [Nat.mul_comm (2 ^ k), Nat.mul_assoc]
      have hT : t * 2 ^ (1074 - k) ≤ 2 ^ E := by rw [hpow]; exact Nat.mul_le_mul_right _ (Nat.le_of_lt ht)
      rw [hX]
      have c4 := Nat.mul_le_mul_right (2 ^ E) c1
      have c5 := Nat.mul_le_mul_right (2 ^ E) c2
      rw [Nat.add_mul, Nat.one_mul] at c5
      generalize 2 ^ E = G at *
      generalize t * 2 ^ (1074 - k) = T at *
      generalize q * G = Q at *
      generalize c * G = C at *
      omega
  · -- it is whole
    have e1 : (-i).toNat = 0 := by omega
    rw [e1] at hc
    have hc2 : c = m <<< i.toNat := by
      rw [← hc]
      exact Nat.le_antisymm (cut_le _ (by simp)) (cut_ge _ (by simp))
    have hR : rungOf Ieee.double c 0 = rung Ieee.double r := by
      refine rungOf_exact (by omega) ?_
      rw [← hv, hl, hc2, Nat.shiftLeft_eq, Nat.mul_assoc, ← Nat.pow_add]
      have : (-1074 - (0 : Int)).toNat = 0 := by decide
      rw [this, Nat.pow_zero, Nat.mul_one]
      congr 2
      have : ((0 : Int) - -1074).toNat = 1074 := by decide
      rw [this]; omega
    rw [hw.1, hR]
    exact ⟨hw.2, by omega, Nat.le_add_right _ _, Nat.le_add_right _ _⟩

theorem one64 {E : Nat} (hE : E = 1074) : val Ieee.double.binade (1023 * Ieee.double.binade) = 2 ^ E := val_double (d := 1022) (by omega)

/-- a number less the integer nearest to it -/
theorem rte_close {r : Nat} (h : rung Ieee.double r ≤ (1150 + 1) * Ieee.double.binade) : bd64 1023 (vop .sub .f64 (some r) (rteV (some r))) := by
  have hinf : (1150 + 1) * Ieee.double.binade < Ieee.double.infRung := by decide
  have hl : Ieee.double.leastPlace = -1074 := by decide
  obtain ⟨E, hE⟩ : ∃ E, E = 1074 := ⟨_, rfl⟩
  obtain ⟨f1, f2, f3, f4⟩ := rte_facts h hE
  obtain ⟨m, i, er, pr, vr⟩ := read_number Ieee.double (w := r) (by omega)
  obtain ⟨n, j, ew, pw, vw⟩ := read_number Ieee.double f2
  rw [← vr, ← vw] at f3 f4
  rw [hl] at pr pw f3 f4
  rw [f1] at ew
  have hsub : vop .sub .f64 (some r) (rteV (some r)) = (Ieee.Datum.sum (.number (neg Ieee.double r) m i) (.number (!neg Ieee.double r) n j)).map Ieee.double.write := by
    show Ieee.double.sub r (rteB r) = _
    unfold Ieee.Format.sub
    rw [er, ew]; rfl
  rw [hsub]
  simp only [Ieee.Datum.sum, Option.map_some]
  refine ⟨_, rfl, ?_⟩
  · rw [(rung_write_number _ _ _ _).1]
    refine rung_le Ieee.double ?_
    rw [one64 hE, hl]
    have e0 : (-1074 - min i j).toNat = 0 := by omega
    rw [e0, Nat.pow_zero, Nat.mul_one]
    have e1 : (i - -1074).toNat = (i - min i j).toNat + (min i j - -1074).toNat := by omega
    have e2 : (j - -1074).toNat = (j - min i j).toNat + (min i j - -1074).toNat := by omega
    rw [e1, e2, Nat.pow_add, Nat.pow_add, ← Nat.mul_assoc, ← Nat.mul_assoc] at f3 f4
    have hs : ∀ (s : Bool) (x y : Nat), (Ieee.signed s x 0 + Ieee.signed (!s) y 0).natAbs = max x y - min x y := by
      intro s x y
      unfold Ieee.signed
      cases s <;> simp <;> omega
    have hs2 : ∀ (s : Bool) (x u : Nat), Ieee.signed s x u = Ieee.signed s (x * 2 ^ u) 0 := by
      intro s x u
      unfold Ieee.signed
      simp [Nat.shiftLeft_eq]
    rw [hs2, hs2 (!neg Ieee.double r), hs]
    generalize m * 2 ^ (i - min i j).toNat = X at *
    generalize n * 2 ^ (j - min i j).toNat = Y at *
    generalize 2 ^ (min i j - -1074).toNat = G at *
    rw [Nat.sub_mul]
    rcases Nat.le_total X Y with g | g
    · rw [Nat.max_eq_right g, Nat.min_eq_left g]; omega
    · rw [Nat.max_eq_left g, Nat.min_eq_right g]; omega

/-- a number whose nearest integer is 0 -/
theorem rte_zero {r : Nat} (h : rung Ieee.double r ≤ (1150 + 1) * Ieee.double.binade) (hz : rung Ieee.double (rteB r) = 0) : bd64 1023 (some r) := by
  obtain ⟨E, hE⟩ : ∃ E, E = 1074 := ⟨_, rfl⟩
  obtain ⟨f1, f2, f3, f4⟩ := rte_facts h hE
  rw [hz, val_zero (binade_pos _), Nat.zero_add, ← one64 hE] at f4
  exact ⟨r, rfl, (val_le (binade_pos _)).1 f4⟩

theorem finV_some {v : V} (h : finV v = true) : ∃ b, v = some b ∧ rung Ieee.single b < Ieee.single.infRung := by
  cases v with
  | none => rw [fin_none] at h; cases h
  | some a =>
    rcases cases32 a with hn | ⟨hn, hr⟩
    · exfalso
      have : FloatKind.f32.format.infRung < rung FloatKind.f32.format a := cv_eq_none hn
      unfold finV ge at h
      rw [show c32 4286578687 = some 4286578687 by kernel_rfl] at h
      have e : vord FloatKind.f32.format (some a) (some 4286578687) = none := order_nan_left (good .f32) this
      rw [e] at h; cases h
    · have := fin_some hr
      rw [h] at this
      exact ⟨a, rfl, of_decide_eq_true this.symm⟩
end Go.Proofs.Yteckjpdfecgljaa
