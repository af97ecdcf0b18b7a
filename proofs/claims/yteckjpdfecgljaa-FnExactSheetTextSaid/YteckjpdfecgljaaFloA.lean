/- Floating point after Ieee/: comparing, rounding, and values in which all NaNs are one. Plain mathematics; no program in sight. -/
import Ieee.Arith
namespace Go.Flo
open Ieee

/-! the value of a rung, in units of the least place -/
def val (b r : Nat) : Nat := if r < b then r else (b + r % b) * 2 ^ (r / b - 1)

theorem val_small {b r : Nat} (h : r < b) : val b r = r := by simp [val, h]

/-- 'd' binades up, 'k' rungs on: for k up to twice a binade, and at least one where d is not 0. -/
theorem val_at {b d k : Nat} (hb : 0 < b) (hk : k ≤ 2 * b) (hd : d = 0 ∨ b ≤ k) : val b (d * b + k) = k * 2 ^ d := by
  unfold val
  rcases Nat.lt_or_ge k b with h | h
  · have : d = 0 := by omega
    subst this; simp [h]
  · have h1 : ¬ (d * b + k < b) := by have := Nat.zero_le (d * b); omega
    rw [if_neg h1]
    rcases Nat.lt_or_ge k (2 * b) with h2 | h2
    · have e : d * b + k = b * (d + 1) + (k - b) := by rw [Nat.mul_add, Nat.mul_comm d b]; omega
      have q : (d * b + k) / b = d + 1 := by
        rw [e, Nat.mul_add_div hb, Nat.div_eq_of_lt (by omega), Nat.add_zero]
      have r : (d * b + k) % b = k - b := by
        rw [e, Nat.mul_add_mod, Nat.mod_eq_of_lt (by omega)]
      rw [q, r]; congr 1; omega
    · have : k = 2 * b := by omega
      subst this
      have e : d * b + 2 * b = b * (d + 2) := by rw [Nat.mul_add, Nat.mul_comm d b]; omega
      rw [e, Nat.mul_mod_right, Nat.mul_div_cancel_left _ hb]
      simp only [Nat.add_zero, show d + 2 - 1 = d + 1 from rfl, Nat.pow_succ]
      rw [Nat.mul_comm 2 b, Nat.mul_assoc, Nat.mul_comm 2]

theorem val_split {b : Nat} (hb : 0 < b) (r : Nat) : ∃ d k, r = d * b + k ∧ k < 2 * b ∧ (d = 0 ∨ b ≤ k) := by
  rcases Nat.lt_or_ge r b with h | h
  · exact ⟨0, r, by omega, by omega, .inl rfl⟩
  · have h1 : 0 < r / b := Nat.div_pos h hb
    have hm := Nat.mod_lt r hb
    refine ⟨r / b - 1, b + r % b, ?_, by omega, .inr (by omega)⟩
    have := Nat.div_add_mod r b
    rw [Nat.sub_mul, Nat.mul_comm (r / b) b]
    have h2 : b ≤ b * (r / b) := Nat.le_mul_of_pos_right _ h1
    omega

theorem val_succ {b : Nat} (hb : 0 < b) (r : Nat) : val b r < val b (r + 1) := by
  obtain ⟨d, k, rfl, hk, hd⟩ := val_split hb r
  rw [val_at hb (by omega) hd, Nat.add_assoc, val_at hb (by omega) (by omega)]
  exact Nat.mul_lt_mul_of_pos_right (by omega) (Nat.two_pow_pos _)

theorem val_mono {b : Nat} (hb : 0 < b) {r s : Nat} (h : r < s) : val b r < val b s := by
  induction s with
  | zero => omega
  | succ n ih =>
    rcases Nat.lt_or_ge r n with h1 | h1
    · exact Nat.lt_trans (ih h1) (val_succ hb n)
    · have : r = n := by omega
      subst this; exact val_succ hb r

theorem val_le {b : Nat} (hb : 0 < b) {r s : Nat} : val b r ≤ val b s ↔ r ≤ s := by
  constructor
  · intro h
    rcases Nat.lt_or_ge s r with h1 | h1
    · have := val_mono hb h1; omega
    · exact h1
  · intro h
    rcases Nat.lt_or_ge r s with h1 | h1
    · exact Nat.le_of_lt (val_mono hb h1)
    · have : r = s := by omega
      subst this; exact Nat.le_refl _

theorem val_lt {b : Nat} (hb : 0 < b) {r s : Nat} : val b r < val b s ↔ r < s := by
  have := @val_le b hb s r
  omega

theorem val_zero {b : Nat} (hb : 0 < b) : val b 0 = 0 := val_small hb

/-! rounding to a whole number: between whole numbers it does not pass one -/
theorem cut_ge (neg : Bool) {n drop k : Nat} (h : k * 2 ^ drop ≤ n) : k ≤ Toward.even.cut neg n drop := by
  unfold Toward.cut
  simp only [Nat.one_shiftLeft]
  refine Nat.le_trans ?_ (Nat.le_add_right _ _)
  rcases Nat.le_total drop (n.log2 + 2) with hd | hd
  · rw [Nat.min_eq_left hd]
    exact (Nat.le_div_iff_mul_le (Nat.two_pow_pos _)).2 h
  · have h1 : n < 2 ^ drop := by
      have : n < 2 ^ (n.log2 + 1) := Nat.lt_log2_self
      exact Nat.lt_of_lt_of_le this (Nat.pow_le_pow_right (by omega) (by omega))
    have : k = 0 := by
      rcases Nat.eq_zero_or_pos k with h2 | h2
      · exact h2
      · have := Nat.le_mul_of_pos_left (2 ^ drop) h2; omega
    rw [this]; exact Nat.zero_le _

theorem cut_le (neg : Bool) {n drop k : Nat} (h : n ≤ k * 2 ^ drop) : Toward.even.cut neg n drop ≤ k := by
  unfold Toward.cut
  simp only [Nat.one_shiftLeft]
  rcases Nat.eq_zero_or_pos k with h0 | h0
  · subst h0
    have : n = 0 := by omega
    subst this
    have hp : 0 < 2 ^ min drop (Nat.log2 0 + 2) := Nat.two_pow_pos _
    simp
  · have hb : ∀ c : Bool, c.toNat ≤ 1 := by decide
    rcases Nat.le_total drop (n.log2 + 2) with hd | hd
    · rw [Nat.min_eq_left hd]
      have hp : 0 < 2 ^ drop := Nat.two_pow_pos _
      have hdm := Nat.div_add_mod n (2 ^ drop)
      generalize 2 ^ drop = g at *
      rcases Nat.lt_or_ge (n / g) k with h1 | h1
      · have := hb (decide (g < 2 * (n % g)) || (g == 2 * (n % g) && n / g % 2 == 1))
        omega
      · have h2 : g * k ≤ g * (n / g) := Nat.mul_le_mul_left _ h1
        rw [Nat.mul_comm k g] at h
        have h3 : n % g = 0 := by omega
        have h4 : n / g ≤ k := by
          have : g * (n / g) ≤ g * k := by omega
          exact Nat.le_of_mul_le_mul_left this hp
        have h5 : (g == 0) = false := by rw [beq_eq_false_iff_ne]; omega
        simp [h3, h5]; exact h4
    · rw [Nat.min_eq_right hd]
      have h1 : n < 2 ^ (n.log2 + 2) := by
        have : n < 2 ^ (n.log2 + 1) := Nat.lt_log2_self
        exact Nat.lt_of_lt_of_le this (Nat.pow_le_pow_right (by omega) (by omega))
      rw [Nat.div_eq_of_lt h1]
      generalize hc : (decide (2 ^ (n.log2 + 2) < 2 * (n % 2 ^ (n.log2 + 2))) || (2 ^ (n.log2 + 2) == 2 * (n % 2 ^ (n.log2 + 2)) && 0 % 2 == 1)) = c
      have := hb c
      omega

/-! comparing at another scale -/
theorem scale {x y e1 e2 e3 e4 : Nat} (h : e1 + e4 = e2 + e3) : x * 2 ^ e1 ≤ y * 2 ^ e2 ↔ x * 2 ^ e3 ≤ y * 2 ^ e4 := by
  have p : ∀ n, 0 < 2 ^ n := fun n => Nat.two_pow_pos n
  constructor
  · intro g
    have g1 := Nat.mul_le_mul_right (2 ^ e4) g
    rw [Nat.mul_assoc, ← Nat.pow_add, h, Nat.pow_add, ← Nat.mul_assoc, Nat.mul_right_comm, Nat.mul_right_comm y] at g1
    exact Nat.le_of_mul_le_mul_right g1 (p e2)
  · intro g
    have g1 := Nat.mul_le_mul_right (2 ^ e1) g
    rw [Nat.mul_assoc y, ← Nat.pow_add, Nat.add_comm e4, h, Nat.pow_add, ← Nat.mul_assoc y, Nat.mul_right_comm] at g1
    exact Nat.le_of_mul_le_mul_right g1 (p e3)

def rungOf (f : Format) (mag : Nat) (place : Int) : Nat :=
  if mag = 0 then 0 else
  let last := max (place + mag.log2 - f.fractionBits) f.leastPlace
  min ((last - f.leastPlace).toNat * f.binade + Toward.even.cut false (mag <<< (place - last).toNat) (last - place).toNat) f.infRung

theorem cut_neg (neg : Bool) (n drop : Nat) : Toward.even.cut neg n drop = Toward.even.cut false n drop := rfl

theorem nearest_rung (f : Format) (neg : Bool) (mag : Nat) (place : Int) : f.nearest neg mag place = f.word neg (rungOf f mag place) := by
  unfold Format.nearest rungOf
  split
  · rfl
  · simp only [cut_neg]

theorem binade_pos (f : Format) : 0 < f.binade := Nat.two_pow_pos _

theorem kept_facts (f : Format) {mag : Nat} (hm : mag ≠ 0) (place last : Int) (hl : last = max (place + mag.log2 - f.fractionBits) f.leastPlace) :
    Toward.even.cut false (mag <<< (place - last).toNat) (last - place).toNat ≤ 2 * f.binade ∧
    ((last - f.leastPlace).toNat = 0 ∨ f.binade * 2 ^ (last - place).toNat ≤ mag <<< (place - last).toNat) := by
  have lo : 2 ^ mag.log2 ≤ mag := Nat.log2_self_le hm
  have hi : mag < 2 ^ (mag.log2 + 1) := Nat.lt_log2_self
  have b2 : 2 * f.binade = 2 ^ (f.fractionBits + 1) := by unfold Format.binade; rw [Nat.pow_succ, Nat.mul_comm]
  rw [Nat.shiftLeft_eq]
  refine ⟨cut_le _ ?_, ?_⟩
  · rw [b2]
    refine Nat.le_of_lt (Nat.lt_of_lt_of_le (Nat.mul_lt_mul_of_pos_right hi (Nat.two_pow_pos _)) ?_)
    rw [← Nat.pow_add, ← Nat.pow_add]
    exact Nat.pow_le_pow_right (by omega) (by omega)
  · rcases Int.le_total (place + mag.log2 - f.fractionBits) f.leastPlace with h | h
    · left; omega
    · right
      refine Nat.le_trans ?_ (Nat.mul_le_mul_right _ lo)
      unfold Format.binade
      rw [← Nat.pow_add, ← Nat.pow_add]
      exact Nat.pow_le_pow_right (by omega) (by omega)

theorem rung_le (f : Format) {mag : Nat} {place : Int} {R : Nat} (h : mag * 2 ^ (place - f.leastPlace).toNat ≤ val f.binade R * 2 ^ (f.leastPlace - place).toNat) : rungOf f mag place ≤ R := by
  unfold rungOf
  split
  · exact Nat.zero_le _
  · rename_i hm
    refine Nat.le_trans (Nat.min_le_left _ _) ?_
    generalize hl : max (place + mag.log2 - f.fractionBits) f.leastPlace = last
    obtain ⟨k1, k2⟩ := kept_facts f hm place last hl.symm
    have hlast : f.leastPlace ≤ last := by omega
    obtain ⟨d, hd⟩ : ∃ d : Nat, last = f.leastPlace + d := ⟨(last - f.leastPlace).toNat, by omega⟩
    have e0 : (last - f.leastPlace).toNat = d := by omega
    rw [e0] at k2 ⊢
    have hb := binade_pos f
    -- n ≤ q * 2^drop wherever V ≤ q * 2^d
    have key : ∀ q, mag * 2 ^ (place - f.leastPlace).toNat ≤ q * 2 ^ d * 2 ^ (f.leastPlace - place).toNat → mag <<< (place - last).toNat ≤ q * 2 ^ (last - place).toNat := by
      intro q hq
      rw [Nat.shiftLeft_eq]
      rw [Nat.mul_assoc, ← Nat.pow_add] at hq
      exact (scale (by omega)).1 hq
    have key' : ∀ q, q * 2 ^ (last - place).toNat ≤ mag <<< (place - last).toNat → q * 2 ^ d * 2 ^ (f.leastPlace - place).toNat ≤ mag * 2 ^ (place - f.leastPlace).toNat := by
      intro q hq
      rw [Nat.shiftLeft_eq] at hq
      rw [Nat.mul_assoc, ← Nat.pow_add]
      exact (scale (by omega)).1 hq
    generalize hk : Toward.even.cut false (mag <<< (place - last).toNat) (last - place).toNat = kept at k1 ⊢
    have hdk : d = 0 ∨ f.binade ≤ kept := by
      rcases k2 with h0 | h0
      · exact .inl h0
      · right; rw [← hk]; exact cut_ge _ h0
    refine (val_le hb).1 ?_
    rw [val_at hb k1 hdk]
    obtain ⟨d', k', rfl, hk', hd'⟩ := val_split hb R
    rw [val_at hb (by omega) hd'] at h ⊢
    rcases Nat.lt_or_ge d' d with hlt | hge
    · exfalso
      rcases k2 with h0 | h0
      · omega
      · have h1 := Nat.le_trans (key' _ h0) h
        have h2 := Nat.le_of_mul_le_mul_right h1 (Nat.two_pow_pos _)
        have h3 : k' * 2 ^ d' < 2 * f.binade * 2 ^ d' := Nat.mul_lt_mul_of_pos_right hk' (Nat.two_pow_pos _)
        have h4 : 2 * f.binade * 2 ^ d' = f.binade * 2 ^ (d' + 1) := by rw [Nat.pow_succ, Nat.mul_comm 2, Nat.mul_assoc, Nat.mul_comm 2]
        have h5 : f.binade * 2 ^ (d' + 1) ≤ f.binade * 2 ^ d := Nat.mul_le_mul_left _ (Nat.pow_le_pow_right (by omega) hlt)
        omega
    · obtain ⟨c, rfl⟩ : ∃ c, d' = d + c := ⟨d' - d, by omega⟩
      have e : k' * 2 ^ (d + c) = k' * 2 ^ c * 2 ^ d := by rw [Nat.pow_add, Nat.mul_comm (2 ^ d), Nat.mul_assoc]
      rw [e] at h ⊢
      have := cut_le false (key _ h)
      rw [hk] at this
      exact Nat.mul_le_mul_right _ this

theorem rung_ge (f : Format) {mag : Nat} {place : Int} {R : Nat} (hR : R ≤ f.infRung) (h : val f.binade R * 2 ^ (f.leastPlace - place).toNat ≤ mag * 2 ^ (place - f.leastPlace).toNat) : R ≤ rungOf f mag place := by
  have hb := binade_pos f
  unfold rungOf
  split
  · rename_i hm
    subst hm
    rw [Nat.zero_mul] at h
    have h1 : val f.binade R = 0 := by
      rcases Nat.eq_zero_or_pos (val f.binade R) with g | g
      · exact g
      · have := Nat.mul_pos g (Nat.two_pow_pos (f.leastPlace - place).toNat); omega
    have : val f.binade R ≤ val f.binade 0 := by rw [val_zero hb]; omega
    exact (val_le hb).1 this
  · rename_i hm
    refine Nat.le_min.2 ⟨?_, hR⟩
    generalize hl : max (place + mag.log2 - f.fractionBits) f.leastPlace = last
    obtain ⟨k1, k2⟩ := kept_facts f hm place last hl.symm
    obtain ⟨d, hd⟩ : ∃ d : Nat, last = f.leastPlace + d := ⟨(last - f.leastPlace).toNat, by omega⟩
    have e0 : (last - f.leastPlace).toNat = d := by omega
    rw [e0] at k2 ⊢
    have key : ∀ q, q * 2 ^ d * 2 ^ (f.leastPlace - place).toNat ≤ mag * 2 ^ (place - f.leastPlace).toNat → q * 2 ^ (last - place).toNat ≤ mag <<< (place - last).toNat := by
      intro q hq
      rw [Nat.shiftLeft_eq]
      rw [Nat.mul_assoc, ← Nat.pow_add] at hq
      exact (scale (by omega)).1 hq
    generalize hk : Toward.even.cut false (mag <<< (place - last).toNat) (last - place).toNat = kept at k1 ⊢
    have hdk : d = 0 ∨ f.binade ≤ kept := by
      rcases k2 with h0 | h0
      · exact .inl h0
      · right; rw [← hk]; exact cut_ge _ h0
    refine (val_le hb).1 ?_
    rw [val_at hb k1 hdk]
    obtain ⟨d', k', rfl, hk', hd'⟩ := val_split hb R
    rw [val_at hb (by omega) hd'] at h ⊢
    rcases Nat.lt_or_ge d' d with hlt | hge
    · have h3 : k' * 2 ^ d' < 2 * f.binade * 2 ^ d' := Nat.mul_lt_mul_of_pos_right hk' (Nat.two_pow_pos _)
      have h4 : 2 * f.binade * 2 ^ d' = f.binade * 2 ^ (d' + 1) := by rw [Nat.pow_succ, Nat.mul_comm 2, Nat.mul_assoc, Nat.mul_comm 2]
      have h5 : f.binade * 2 ^ (d' + 1) ≤ f.binade * 2 ^ d := Nat.mul_le_mul_left _ (Nat.pow_le_pow_right (by omega) hlt)
      have h6 : f.binade * 2 ^ d ≤ kept * 2 ^ d := Nat.mul_le_mul_right _ (by omega)
      omega
    · obtain ⟨c, rfl⟩ : ∃ c, d' = d + c := ⟨d' - d, by omega⟩
      have e : k' * 2 ^ (d + c) = k' * 2 ^ c * 2 ^ d := by rw [Nat.pow_add, Nat.mul_comm (2 ^ d), Nat.mul_assoc]
      rw [e] at h ⊢
      have := cut_ge false (key _ h)
      rw [hk] at this
      exact Nat.mul_le_mul_right _ this

theorem rungOf_le_inf (f : Format) (mag : Nat) (place : Int) : rungOf f mag place ≤ f.infRung := by
  unfold rungOf
  split
  · exact Nat.zero_le _
  · exact Nat.min_le_right _ _

/-! words -/
def neg (f : Format) (w : Nat) : Bool := w / f.signWeight % 2 == 1
def rung (f : Format) (w : Nat) : Nat := w % f.signWeight
def key (f : Format) (w : Nat) : Int := if neg f w then -(rung f w : Int) else rung f w
def isNan (f : Format) (w : Nat) : Bool := decide (f.infRung < rung f w)

theorem infRung_add_binade (f : Format) : f.infRung + f.binade = f.signWeight := by
  have h : 0 < 2 ^ f.exponentBits := Nat.two_pow_pos _
  unfold Format.infRung Format.signWeight
  rw [Nat.pow_add, ← Nat.succ_mul]
  exact congrArg (· * f.binade) (by omega)

theorem rung_word (f : Format) (n : Bool) {r : Nat} (h : r < f.signWeight) : rung f (f.word n r) = r ∧ neg f (f.word n r) = n := by
  unfold rung neg Format.word
  cases n
  · simp [Nat.mod_eq_of_lt h, Nat.div_eq_of_lt h]
  · have hp : 0 < f.signWeight := by omega
    have : (f.signWeight + r) / f.signWeight = 1 := by rw [Nat.add_div_left _ hp, Nat.div_eq_of_lt h]
    simp [Nat.add_mod_left, Nat.mod_eq_of_lt h, this]

theorem word_of (f : Format) {w : Nat} (h : w < 2 ^ f.width) : f.word (neg f w) (rung f w) = w := by
  have two : 2 ^ f.width = 2 * f.signWeight := by
    unfold Format.width Format.signWeight
    rw [Nat.add_assoc, Nat.add_comm 1, Nat.pow_succ, Nat.mul_comm]
  rw [two] at h
  have hp : 0 < f.signWeight := by omega
  have hd := Nat.div_add_mod w f.signWeight
  have h1 : w / f.signWeight < 2 := by
    rw [Nat.div_lt_iff_lt_mul hp]; exact h
  unfold Format.word neg rung
  generalize w / f.signWeight = q at hd h1 ⊢
  rcases Nat.lt_or_ge q 1 with h2 | h2
  · obtain rfl : q = 0 := by omega
    rw [Nat.mul_zero] at hd; simp; omega
  · obtain rfl : q = 1 := by omega
    rw [Nat.mul_one] at hd; simp; omega

theorem read_number (f : Format) {w : Nat} (h : rung f w < f.infRung) : ∃ mag place, f.read w = .number (neg f w) mag place ∧ f.leastPlace ≤ place ∧ mag * 2 ^ (place - f.leastPlace).toNat = val f.binade (rung f w) := by
  unfold rung at h
  unfold Format.read val rung
  simp only []
  split
  · exact ⟨_, _, rfl, Int.le_refl _, by simp⟩
  · exact ⟨_, _, rfl, by omega, by congr 2; omega⟩

/-- the exponent field has a bit -/
def Good (f : Format) : Prop := f.binade ≤ f.infRung

theorem read_inf {f : Format} (hg : Good f) {w : Nat} (h : rung f w = f.infRung) : f.read w = .infinity (neg f w) := by
  unfold rung at h
  unfold Good at hg
  have h2 : ¬ (w % f.signWeight < f.infRung) := by omega
  have h1 : ¬ (w % f.signWeight < f.binade) := by omega
  show (if w % f.signWeight < f.binade then _ else if w % f.signWeight < f.infRung then _ else if w % f.signWeight = f.infRung then _ else _) = _
  rw [if_neg h1, if_neg h2, if_pos h]; rfl

theorem read_nan {f : Format} (hg : Good f) {w : Nat} (h : f.infRung < rung f w) : f.read w = .nan (neg f w) (rung f w - f.infRung) := by
  unfold rung at h
  unfold Good at hg
  have h2 : ¬ (w % f.signWeight < f.infRung) := by omega
  have h1 : ¬ (w % f.signWeight < f.binade) := by omega
  have h3 : ¬ (w % f.signWeight = f.infRung) := by omega
  show (if w % f.signWeight < f.binade then _ else if w % f.signWeight < f.infRung then _ else if w % f.signWeight = f.infRung then _ else _) = _
  rw [if_neg h1, if_neg h2, if_neg h3]; rfl

theorem good_single : Good single := by unfold Good; decide
theorem good_double : Good double := by unfold Good; decide

theorem cmp_congr {a b c d : Int} (h1 : a < b ↔ c < d) (h2 : a = b ↔ c = d) : compare a b = compare c d := by
  simp only [compare, compareOfLessAndEq]
  by_cases h : a < b
  · rw [if_pos h, if_pos (h1.1 h)]
  · rw [if_neg h, if_neg (fun g => h (h1.2 g))]
    by_cases g : a = b
    · rw [if_pos g, if_pos (h2.1 g)]
    · rw [if_neg g, if_neg (fun g' => g (h2.2 g'))]

theorem cmp_lt {a b : Int} (h : a < b) : compare a b = .lt := by simp only [compare, compareOfLessAndEq]; rw [if_pos h]
theorem cmp_gt {a b : Int} (h : b < a) : compare a b = .gt := by simp only [compare, compareOfLessAndEq]; rw [if_neg (by omega), if_neg (by omega)]
theorem cmp_eq (a : Int) : compare a a = .eq := by simp only [compare, compareOfLessAndEq]; rw [if_neg (by omega)]; simp
theorem cmp_is_lt {a b : Int} : compare a b = .lt ↔ a < b := by
  rcases Int.lt_trichotomy a b with h | h | h
  · simp [cmp_lt h, h]
  · subst h; simp
  · simp [cmp_gt h]; omega
theorem cmp_is_gt {a b : Int} : compare a b = .gt ↔ b < a := by
  rcases Int.lt_trichotomy a b with h | h | h
  · simp [cmp_lt h]; omega
  · subst h; simp
  · simp [cmp_gt h, h]
theorem cmp_is_eq {a b : Int} : compare a b = .eq ↔ a = b := by
  rcases Int.lt_trichotomy a b with h | h | h
  · simp [cmp_lt h]; omega
  · subst h; simp
  · simp [cmp_gt h]; omega

/-- a number with its sign -/
def sg (n : Bool) (x : Nat) : Int := if n then -(x : Int) else x

theorem key_eq (f : Format) (w : Nat) : key f w = sg (neg f w) (rung f w) := rfl
theorem signed_eq (n : Bool) (m u : Nat) : signed n m u = sg n (m * 2 ^ u) := by unfold signed sg; rw [Nat.shiftLeft_eq]

theorem sg_mono {g : Nat → Nat} (hz : g 0 = 0) (hm : ∀ a b, g a < g b ↔ a < b) (s t : Bool) (a b : Nat) :
    compare (sg s (g a)) (sg t (g b)) = compare (sg s a) (sg t b) := by
  have h1 := hm a b
  have h2 := hm b a
  have h3 := hm 0 a
  have h4 := hm 0 b
  rw [hz] at h3 h4
  apply cmp_congr <;> cases s <;> cases t <;> simp only [sg, if_true, if_false, Bool.false_eq_true] <;> omega

theorem order_key {f : Format} (hg : Good f) {x y : Nat} (hx : rung f x ≤ f.infRung) (hy : rung f y ≤ f.infRung) : f.order x y = some (compare (key f x) (key f y)) := by
  unfold Format.order
  rcases Nat.lt_or_ge (rung f x) f.infRung with h1 | h1
  · obtain ⟨m, i, e1, p1, v1⟩ := read_number f h1
    rw [e1]
    rcases Nat.lt_or_ge (rung f y) f.infRung with h2 | h2
    · obtain ⟨n, j, e2, p2, v2⟩ := read_number f h2
      rw [e2]
      simp only [Datum.order, Option.some.injEq, signed_eq, key_eq]
      have hb := binade_pos f
      rw [← sg_mono (g := val f.binade) (val_zero hb) (fun a b => val_lt hb) (neg f x) (neg f y) (rung f x) (rung f y), ← v1, ← v2]
      have ex : (i - f.leastPlace).toNat = (i - min i j).toNat + (min i j - f.leastPlace).toNat := by omega
      have ey : (j - f.leastPlace).toNat = (j - min i j).toNat + (min i j - f.leastPlace).toNat := by omega
      rw [ex, ey, Nat.pow_add, Nat.pow_add, ← Nat.mul_assoc, ← Nat.mul_assoc]
      have hp := Nat.two_pow_pos (min i j - f.leastPlace).toNat
      refine (sg_mono (g := fun a => a * 2 ^ (min i j - f.leastPlace).toNat) (Nat.zero_mul _) (fun a b => ?_) _ _ _ _).symm
      constructor
      · exact fun h => Nat.lt_of_mul_lt_mul_right h
      · exact fun h => Nat.mul_lt_mul_of_pos_right h hp
    · have h2' : rung f y = f.infRung := by omega
      rw [read_inf hg h2']
      simp only [Datum.order, key_eq, h2', Option.some.injEq, sg]
      cases neg f x <;> cases neg f y <;> simp only [if_true, if_false, Bool.false_eq_true] <;> first | exact (cmp_lt (by omega)).symm | exact (cmp_gt (by omega)).symm
  · have h1' : rung f x = f.infRung := by omega
    rw [read_inf hg h1']
    rcases Nat.lt_or_ge (rung f y) f.infRung with h2 | h2
    · obtain ⟨n, j, e2, p2, v2⟩ := read_number f h2
      rw [e2]
      simp only [Datum.order, key_eq, h1', Option.some.injEq, sg]
      cases neg f x <;> cases neg f y <;> simp only [if_true, if_false, Bool.false_eq_true] <;> first | exact (cmp_lt (by omega)).symm | exact (cmp_gt (by omega)).symm
    · have h2' : rung f y = f.infRung := by omega
      rw [read_inf hg h2']
      simp only [Datum.order, key_eq, h1', h2', Option.some.injEq, sg]
      have : 0 < f.infRung := Nat.lt_of_lt_of_le (binade_pos f) hg
      cases neg f x <;> cases neg f y <;> simp only [if_true, if_false, Bool.false_eq_true] <;> first | exact (cmp_lt (by omega)).symm | exact (cmp_gt (by omega)).symm | (rw [cmp_eq]; rfl)

theorem order_nan_left {f : Format} (hg : Good f) {x y : Nat} (hx : f.infRung < rung f x) : f.order x y = none := by
  unfold Format.order; rw [read_nan hg hx]; rfl

theorem order_nan_right {f : Format} (hg : Good f) {x y : Nat} (hy : f.infRung < rung f y) : f.order x y = none := by
  unfold Format.order; rw [read_nan hg hy]; cases f.read x <;> rfl

/-! canonical values: a word, or none for whatever NaN -/
def cv (f : Format) (w : Nat) : Option Nat := if f.infRung < rung f w then none else some w

theorem cv_some {f : Format} {w : Nat} (h : rung f w ≤ f.infRung) : cv f w = some w := by unfold cv; rw [if_neg (by omega)]
theorem cv_none {f : Format} {w : Nat} (h : f.infRung < rung f w) : cv f w = none := by unfold cv; rw [if_pos h]
theorem cv_eq_some {f : Format} {w v : Nat} (h : cv f w = some v) : v = w ∧ rung f w ≤ f.infRung := by
  unfold cv at h
  split at h
  · cases h
  · cases h; exact ⟨rfl, by omega⟩
theorem cv_eq_none {f : Format} {w : Nat} (h : cv f w = none) : f.infRung < rung f w := by
  unfold cv at h
  split at h
  · assumption
  · cases h
theorem cv_cases (f : Format) (w : Nat) : (cv f w = none ∧ f.infRung < rung f w) ∨ (cv f w = some w ∧ rung f w ≤ f.infRung) := by
  rcases Nat.lt_or_ge f.infRung (rung f w) with h | h
  · exact .inl ⟨cv_none h, h⟩
  · exact .inr ⟨cv_some h, h⟩

theorem infRung_lt (f : Format) : f.infRung < f.signWeight := by
  have h := binade_pos f
  have := infRung_add_binade f
  omega

/-- what is written of a number or an infinity is no NaN -/
theorem write_number (f : Format) (n : Bool) (mag : Nat) (place : Int) : f.write (.number n mag place) = f.word n (rungOf f mag place) := nearest_rung f n mag place

theorem rung_write_number (f : Format) (n : Bool) (mag : Nat) (place : Int) : rung f (f.write (.number n mag place)) = rungOf f mag place ∧ neg f (f.write (.number n mag place)) = n := by
  rw [write_number]
  exact rung_word f n (Nat.lt_of_le_of_lt (rungOf_le_inf f mag place) (infRung_lt f))

theorem rung_write_inf (f : Format) (n : Bool) : rung f (f.write (.infinity n)) = f.infRung ∧ neg f (f.write (.infinity n)) = n := rung_word f n (infRung_lt f)

def NotNan (d : Datum) : Prop := match d with | .nan _ _ => False | _ => True

theorem rung_write_le (f : Format) {d : Datum} (h : NotNan d) : rung f (f.write d) ≤ f.infRung := by
  cases d with
  | number n m p => rw [(rung_write_number f n m p).1]; exact rungOf_le_inf f m p
  | infinity n => rw [(rung_write_inf f n).1]; exact Nat.le_refl _
  | nan n t => exact h.elim

theorem sum_notNan {d e r : Datum} (h : d.sum e = some r) : NotNan r := by
  cases d <;> cases e <;> simp only [Datum.sum] at h <;> first | cases h; done | (split at h <;> cases h <;> trivial) | (cases h; trivial)
theorem product_notNan {d e r : Datum} (h : d.product e = some r) : NotNan r := by
  cases d <;> cases e <;> simp only [Datum.product] at h <;> first | cases h; done | (split at h <;> cases h <;> trivial) | (cases h; trivial)
theorem quotient_notNan {n : Nat} {d e r : Datum} (h : d.quotient n e = some r) : NotNan r := by
  cases d <;> cases e <;> simp only [Datum.quotient] at h <;> first | cases h; done | (split at h <;> (try split at h) <;> cases h <;> trivial) | (cases h; trivial)
theorem root_notNan {n : Nat} {d r : Datum} (h : d.root n = some r) : NotNan r := by
  cases d <;> simp only [Datum.root] at h <;> first | cases h; done | (split at h <;> (try split at h) <;> cases h <;> trivial) | (cases h; trivial)

theorem map_write_rung {f : Format} {o : Option Datum} {r : Nat} (h : o.map f.write = some r) (hn : ∀ d, o = some d → NotNan d) : rung f r ≤ f.infRung := by
  cases o with
  | none => cases h
  | some d => cases h; exact rung_write_le f (hn d rfl)

theorem add_rung {f : Format} {x y r : Nat} (h : f.add x y = some r) : rung f r ≤ f.infRung := map_write_rung h fun _ hd => sum_notNan hd
theorem sub_rung {f : Format} {x y r : Nat} (h : f.sub x y = some r) : rung f r ≤ f.infRung := map_write_rung h fun _ hd => sum_notNan hd
theorem mul_rung {f : Format} {x y r : Nat} (h : f.mul x y = some r) : rung f r ≤ f.infRung := map_write_rung h fun _ hd => product_notNan hd
theorem div_rung {f : Format} {x y r : Nat} (h : f.div x y = some r) : rung f r ≤ f.infRung := map_write_rung h fun _ hd => quotient_notNan hd
theorem sqrt_rung {f : Format} {x r : Nat} (h : f.sqrt x = some r) : rung f r ≤ f.infRung := map_write_rung h fun _ hd => root_notNan hd

/-- a NaN among the operands: no result -/
theorem add_nan {f : Format} (hg : Good f) {x y : Nat} (h : cv f x = none ∨ cv f y = none) : f.add x y = none := by
  unfold Format.add
  rcases h with h | h <;> rw [read_nan hg (cv_eq_none h)]
  · rfl
  · cases f.read x <;> rfl
theorem sub_nan {f : Format} (hg : Good f) {x y : Nat} (h : cv f x = none ∨ cv f y = none) : f.sub x y = none := by
  unfold Format.sub
  rcases h with h | h <;> rw [read_nan hg (cv_eq_none h)]
  · rfl
  · cases f.read x <;> rfl
theorem mul_nan {f : Format} (hg : Good f) {x y : Nat} (h : cv f x = none ∨ cv f y = none) : f.mul x y = none := by
  unfold Format.mul
  rcases h with h | h <;> rw [read_nan hg (cv_eq_none h)]
  · rfl
  · cases f.read x <;> rfl
theorem div_nan {f : Format} (hg : Good f) {x y : Nat} (h : cv f x = none ∨ cv f y = none) : f.div x y = none := by
  unfold Format.div
  rcases h with h | h <;> rw [read_nan hg (cv_eq_none h)]
  · rfl
  · cases f.read x <;> rfl
theorem sqrt_nan {f : Format} (hg : Good f) {x : Nat} (h : cv f x = none) : f.sqrt x = none := by
  unfold Format.sqrt
  rw [read_nan hg (cv_eq_none h)]; rfl

/-! the operations on canonical values -/
def lift2 (g : Nat → Nat → Option Nat) : Option Nat → Option Nat → Option Nat
  | some a, some b => g a b
  | _, _ => none
def vadd (f : Format) : Option Nat → Option Nat → Option Nat := lift2 f.add
def vsub (f : Format) : Option Nat → Option Nat → Option Nat := lift2 f.sub
def vmul (f : Format) : Option Nat → Option Nat → Option Nat := lift2 f.mul
def vdiv (f : Format) : Option Nat → Option Nat → Option Nat := lift2 f.div
def vord (f : Format) : Option Nat → Option Nat → Option Ordering
  | some a, some b => f.order a b
  | _, _ => none
def vsqrt (f : Format) (x : Option Nat) : Option Nat := x.bind f.sqrt

theorem lift2_cv {f : Format} {g : Nat → Nat → Option Nat} (hn : ∀ {x y : Nat}, (cv f x = none ∨ cv f y = none) → g x y = none) (a b : Nat) : lift2 g (cv f a) (cv f b) = g a b := by
  rcases cv_cases f a with ⟨h1, _⟩ | ⟨h1, _⟩ <;> rcases cv_cases f b with ⟨h2, _⟩ | ⟨h2, _⟩ <;> rw [h1, h2]
  · exact (hn (.inl h1)).symm
  · exact (hn (.inl h1)).symm
  · exact (hn (.inr h2)).symm
  · rfl

theorem vadd_cv {f : Format} (hg : Good f) (a b : Nat) : vadd f (cv f a) (cv f b) = f.add a b := lift2_cv (add_nan hg) a b
theorem vsub_cv {f : Format} (hg : Good f) (a b : Nat) : vsub f (cv f a) (cv f b) = f.sub a b := lift2_cv (sub_nan hg) a b
theorem vmul_cv {f : Format} (hg : Good f) (a b : Nat) : vmul f (cv f a) (cv f b) = f.mul a b := lift2_cv (mul_nan hg) a b
theorem vdiv_cv {f : Format} (hg : Good f) (a b : Nat) : vdiv f (cv f a) (cv f b) = f.div a b := lift2_cv (div_nan hg) a b
theorem vord_cv {f : Format} (hg : Good f) (a b : Nat) : f.order a b = vord f (cv f a) (cv f b) := by
  rcases cv_cases f a with ⟨h1, g1⟩ | ⟨h1, _⟩ <;> rcases cv_cases f b with ⟨h2, g2⟩ | ⟨h2, _⟩ <;> rw [h1, h2]
  · exact order_nan_left hg g1
  · exact order_nan_left hg g1
  · exact order_nan_right hg g2
  · rfl
theorem vsqrt_cv {f : Format} (hg : Good f) (a : Nat) : vsqrt f (cv f a) = f.sqrt a := by
  rcases cv_cases f a with ⟨h1, _⟩ | ⟨h1, _⟩ <;> rw [h1]
  · exact (sqrt_nan hg h1).symm
  · rfl
end Go.Flo
