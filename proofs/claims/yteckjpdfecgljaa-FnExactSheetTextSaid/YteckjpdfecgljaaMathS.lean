/- Plain facts: sizes of numbers, made wide, keep their order; products with 0 and 1, differences from 0; upper bounds of roots. -/
import Derived.Test.YteckjpdfecgljaaMathR
namespace Go.Proofs.Yteckjpdfecgljaa
open Go.RowKit Go.Flo
set_option linter.unusedSimpArgs false
set_option linter.unusedVariables false

theorem arith1 {D X : Nat} (h3 : D * 4503599627370496 ≤ 1150 * 4503599627370496) (hi : X < 2 * 4503599627370496) : D * 4503599627370496 + X ≤ 9218868437227405312 := Nat.le_trans (Nat.add_le_add h3 (Nat.le_of_lt hi)) (by decide)
theorem wide_exact {b r E : Nat} (hE : E = 925) (h : rung Ieee.single b < Ieee.single.infRung) (hw : wide (some b) = some r) : val Ieee.double.binade (rung Ieee.double r) = val Ieee.single.binade (rung Ieee.single b) * 2 ^ E := by
  have hbs : Ieee.single.binade = 8388608 := by decide
  have hbd : Ieee.double.binade = 2 ^ 52 := by decide
  have hbd' : Ieee.double.binade = 4503599627370496 := by decide
  have hdi : Ieee.double.infRung = 9218868437227405312 := by decide
  obtain ⟨d, k, hr, hk, hdk⟩ := val_split (binade_pos Ieee.single) (rung Ieee.single b)
  have hv : val Ieee.single.binade (rung Ieee.single b) = k * 2 ^ d := by rw [hr]; exact val_at (binade_pos _) (Nat.le_of_lt hk) hdk
  rcases Nat.eq_zero_or_pos k with h0 | h0
  · have hz : val Ieee.single.binade (rung Ieee.single b) * 2 ^ E = 0 := by rw [hv, h0]; simp
    have hle : rung Ieee.double r ≤ 0 := wide_le hE h hw (by rw [hz]; exact Nat.zero_le _)
    rw [Nat.le_zero.1 hle, hz]; exact val_zero (binade_pos _)
  · have hl1 : 2 ^ k.log2 ≤ k := Nat.log2_self_le (by omega)
    have hl2 : k < 2 ^ (k.log2 + 1) := Nat.lt_log2_self
    have hl3 : k.log2 < 24 := (Nat.log2_lt (by omega)).2 (by rw [hbs] at hk; omega)
    obtain ⟨s, hs⟩ : ∃ s, s = 52 - k.log2 := ⟨_, rfl⟩
    have hd : d ≤ 254 := by rw [inf32] at h; rw [hbs] at hr; omega
    obtain ⟨D, hD⟩ : ∃ D, D = d + E - s := ⟨_, rfl⟩
    have e1 : 2 ^ k.log2 * 2 ^ s = 2 ^ 52 := by rw [← Nat.pow_add]; congr 1; omega
    have e2 : 2 ^ (k.log2 + 1) * 2 ^ s = 2 ^ 53 := by rw [← Nat.pow_add]; congr 1; omega
    have lo : Ieee.double.binade ≤ k * 2 ^ s := by rw [hbd, ← e1]; exact Nat.mul_le_mul_right _ hl1
    have hi : k * 2 ^ s < 2 * Ieee.double.binade := by
      have : k * 2 ^ s < 2 ^ (k.log2 + 1) * 2 ^ s := Nat.mul_lt_mul_of_pos_right hl2 (Nat.two_pow_pos _)
      rw [e2] at this
      rw [hbd]
      have e53 : (2 : Nat) ^ 53 = 2 * 2 ^ 52 := by rw [Nat.pow_succ (n := 2) (m := 52), Nat.mul_comm]
      rw [← e53]; exact this
    have hval : val Ieee.double.binade (D * Ieee.double.binade + k * 2 ^ s) = val Ieee.single.binade (rung Ieee.single b) * 2 ^ E := by
      rw [val_at (binade_pos _) (Nat.le_of_lt hi) (.inr lo), hv, Nat.mul_assoc, Nat.mul_assoc, ← Nat.pow_add, ← Nat.pow_add]
      congr 2; omega
    have hR : D * Ieee.double.binade + k * 2 ^ s ≤ Ieee.double.infRung := by
      have : D ≤ 1150 := by omega
      have h3 : D * Ieee.double.binade ≤ 1150 * Ieee.double.binade := Nat.mul_le_mul_right _ this
      rw [hdi]; rw [hbd'] at h3 hi ⊢
      generalize k * 2 ^ s = X at hi ⊢
      exact arith1 h3 hi
    have a1 := wide_le hE h hw (Nat.le_of_eq hval.symm)
    have a2 := wide_ge hE h hw hR (Nat.le_of_eq hval)
    rw [Nat.le_antisymm a1 a2, hval]

/-- the size of a number: its opposite, if it is less than 0 -/
def sizeV (x : V) : V := x.map fun b => if vord FloatKind.f32.format (some b) (c32 0) == some .lt then Op.negFloat .f32 b else b

theorem key_zero : key Ieee.single 0 = 0 := by decide
theorem neg_flip (b : Nat) : neg Ieee.single (Op.negFloat .f32 b) = !neg Ieee.single b := by
  have e : Op.negFloat .f32 b = b ^^^ 2 ^ 31 := by
    unfold Op.negFloat
    have hs : FloatKind.f32.format.exponentBits + FloatKind.f32.format.fractionBits = 31 := by decide
    have hw : FloatKind.f32.format.signWeight = 2 ^ 31 := by decide
    first | rw [hw] | rw [hs]
  unfold neg
  have hs' : Ieee.single.signWeight = 2 ^ 31 := by decide
  rw [e, hs']
  have h1 : (b ^^^ 2 ^ 31) / 2 ^ 31 = (b / 2 ^ 31) ^^^ 1 := by
    rw [← Nat.shiftRight_eq_div_pow, ← Nat.shiftRight_eq_div_pow, Nat.shiftRight_xor_distrib]
    congr 1
  rw [h1]
  have h2 : ((b / 2 ^ 31) ^^^ 1) % 2 = (b / 2 ^ 31 + 1) % 2 := by
    have := Nat.xor_mod_two_pow (a := b / 2 ^ 31) (b := 1) (n := 1)
    rw [Nat.pow_one] at this
    rw [this]
    rcases Nat.mod_two_eq_zero_or_one (b / 2 ^ 31) with h | h <;> (rw [Nat.add_mod, h]; rfl)
  rw [h2]
  rcases Nat.mod_two_eq_zero_or_one (b / 2 ^ 31) with h | h
  · rw [Nat.add_mod, h]; rfl
  · rw [Nat.add_mod, h]; rfl
/-- its key is not less than 0 -/
theorem size_some {b : Nat} (h : rung Ieee.single b ≤ Ieee.single.infRung) : ∃ c, sizeV (some b) = some c ∧ rung Ieee.single c = rung Ieee.single b ∧ key Ieee.single c = rung Ieee.single b := by
  have h0 : c32 0 = some 0 := by kernel_rfl
  have ho : vord FloatKind.f32.format (some b) (c32 0) = some (compare (key Ieee.single b) (key Ieee.single 0)) := by rw [h0]; exact order_key (good .f32) h (by decide)
  unfold sizeV
  simp only [Option.map_some, ho, key_zero]
  rcases Int.lt_trichotomy (key Ieee.single b) 0 with g | g | g
  · rw [cmp_lt g]
    refine ⟨Op.negFloat .f32 b, by rw [if_pos (by rfl)], neg_rung b, ?_⟩
    have hn : neg Ieee.single b = true := by
      cases hn : neg Ieee.single b
      · have : key Ieee.single b = rung Ieee.single b := by unfold key; rw [hn]; rfl
        omega
      · rfl
    have : key Ieee.single (Op.negFloat .f32 b) = rung Ieee.single (Op.negFloat .f32 b) := by unfold key; rw [neg_flip, hn]; rfl
    rw [this]
    exact congrArg Int.ofNat (neg_rung b)
  · rw [g, cmp_eq]
    refine ⟨b, by rw [if_neg (by decide)], rfl, ?_⟩
    have := key_abs b; omega
  · rw [cmp_gt g]
    refine ⟨b, by rw [if_neg (by decide)], rfl, ?_⟩
    have := key_abs b; omega
theorem size_nan {b : Nat} (h : Ieee.single.infRung < rung Ieee.single b) (y : V) : vord FloatKind.f32.format (sizeV (some b)) y = none ∧ vord FloatKind.f32.format y (sizeV (some b)) = none := by
  unfold sizeV
  simp only [Option.map_some]
  have hr : ∀ c, c = b ∨ c = Op.negFloat .f32 b → Ieee.single.infRung < rung Ieee.single c := fun c hc => by
    rcases hc with rfl | rfl
    · exact h
    · have := neg_rung b
      have e : rung Ieee.single (Op.negFloat .f32 b) = rung Ieee.single b := this
      rw [e]; exact h
  have hc : ∃ c, (if vord FloatKind.f32.format (some b) (c32 0) == some .lt then Op.negFloat .f32 b else b) = c ∧ (c = b ∨ c = Op.negFloat .f32 b) := by
    split
    · exact ⟨_, rfl, .inr rfl⟩
    · exact ⟨_, rfl, .inl rfl⟩
  obtain ⟨c, hc1, hc2⟩ := hc
  rw [hc1]
  cases y with
  | none => exact ⟨rfl, rfl⟩
  | some y => exact ⟨order_nan_left (good .f32) (hr c hc2), order_nan_right (good .f32) (hr c hc2)⟩
theorem wide_nan {b : Nat} (h : Ieee.single.infRung < rung Ieee.single b) : wide (some b) = none := by
  have e : FloatKind.f32.decode b = .nan (neg Ieee.single b) (rung Ieee.single b - Ieee.single.infRung) := read_nan good_single h
  simp [wide, floatToFloatBits, e]
theorem size_ord (x y : V) : vord FloatKind.f64.format (absV (wide x)) (absV (wide y)) = vord FloatKind.f32.format (sizeV x) (sizeV y) := by
  have nanL : ∀ z, vord FloatKind.f64.format (absV none) z = none := fun z => vord_none_left _ _
  have nanR : ∀ z, vord FloatKind.f64.format z (absV none) = none := fun z => vord_none_right _ _
  cases x with
  | none => rw [show wide none = none from rfl, nanL, show sizeV none = none from rfl, vord_none_left]
  | some a =>
    cases y with
    | none => rw [show wide none = none from rfl, nanR, show sizeV none = none from rfl, vord_none_right]
    | some b =>
      rcases Nat.lt_or_ge Ieee.single.infRung (rung Ieee.single a) with ha | ha
      · rw [wide_nan ha, nanL, (size_nan ha _).1]
      rcases Nat.lt_or_ge Ieee.single.infRung (rung Ieee.single b) with hb | hb
      · rw [wide_nan hb, nanR, (size_nan hb _).2]
      obtain ⟨c, hc, hc1, hc2⟩ := size_some ha
      obtain ⟨d, hd, hd1, hd2⟩ := size_some hb
      rw [hc, hd]
      have o2 : vord FloatKind.f32.format (some c) (some d) = some (compare (key Ieee.single c) (key Ieee.single d)) := order_key (good .f32) (show rung Ieee.single c ≤ Ieee.single.infRung by rw [hc1]; exact ha) (show rung Ieee.single d ≤ Ieee.single.infRung by rw [hd1]; exact hb)
      rw [o2, hc2, hd2]
      have wd : ∀ {z : Nat}, rung Ieee.single z ≤ Ieee.single.infRung → ∃ r, wide (some z) = some r ∧ rung Ieee.double r ≤ Ieee.double.infRung := fun {z} hz => by
        rcases Nat.lt_or_ge (rung Ieee.single z) Ieee.single.infRung with g | g
        · obtain ⟨r, m, p, e, _⟩ := wide_some g
          exact ⟨r, e, Nat.le_trans (wide_small rfl g e) (by decide)⟩
        · obtain ⟨r, e, hr, _⟩ := wide_inf (b := z) (by omega)
          exact ⟨r, e, Nat.le_of_eq hr⟩
      obtain ⟨r, hr, hri⟩ := wd ha
      obtain ⟨s, hs, hsi⟩ := wd hb
      rw [hr, hs]
      have ab : ∀ q : Nat, rung Ieee.double (q % 2 ^ 63) = rung Ieee.double q ∧ key Ieee.double (q % 2 ^ 63) = rung Ieee.double q := fun q => by
        have e1 : rung Ieee.double (q % 2 ^ 63) = rung Ieee.double q := by unfold rung; rw [double_weight, Nat.mod_mod]
        have e2 : neg Ieee.double (q % 2 ^ 63) = false := by unfold neg; rw [double_weight, Nat.div_eq_of_lt (Nat.mod_lt _ (by decide))]; rfl
        exact ⟨e1, by unfold key; rw [e1, e2]; rfl⟩
      have o1 : vord FloatKind.f64.format (absV (some r)) (absV (some s)) = some (compare (key Ieee.double (r % 2 ^ 63)) (key Ieee.double (s % 2 ^ 63))) := order_key good_double (by rw [(ab r).1]; exact hri) (by rw [(ab s).1]; exact hsi)
      rw [o1, (ab r).2, (ab s).2]
      have hE : ∃ E, E = 925 := ⟨_, rfl⟩
      obtain ⟨E, hE⟩ := hE
      have lt_iff : ∀ {z w q t : Nat}, rung Ieee.single z ≤ Ieee.single.infRung → rung Ieee.single w ≤ Ieee.single.infRung → wide (some z) = some q → wide (some w) = some t → (rung Ieee.double q < rung Ieee.double t ↔ rung Ieee.single z < rung Ieee.single w) := fun {z w q t} hz hw hq ht => by
        rcases Nat.lt_or_ge (rung Ieee.single z) Ieee.single.infRung with g | g
        · have hq2 : rung Ieee.double q < Ieee.double.infRung := Nat.lt_of_le_of_lt (wide_small rfl g hq) (by decide)
          rcases Nat.lt_or_ge (rung Ieee.single w) Ieee.single.infRung with g2 | g2
          · have x1 := wide_exact hE g hq
            have x2 := wide_exact hE g2 ht
            have v1 := val_lt (b := Ieee.double.binade) (r := rung Ieee.double q) (s := rung Ieee.double t) (binade_pos Ieee.double)
            have v2 := val_lt (b := Ieee.single.binade) (r := rung Ieee.single z) (s := rung Ieee.single w) (binade_pos Ieee.single)
            rw [← v1, ← v2, x1, x2]
            exact Nat.mul_lt_mul_right (Nat.two_pow_pos E)
          · obtain ⟨r', e, hr', _⟩ := wide_inf (b := w) (by omega)
            rw [ht] at e; cases e
            constructor
            · intro _; omega
            · intro _; omega
        · obtain ⟨r', e, hr', _⟩ := wide_inf (b := z) (by omega)
          rw [hq] at e; cases e
          constructor
          · intro hlt
            exfalso
            rcases Nat.lt_or_ge (rung Ieee.single w) Ieee.single.infRung with g2 | g2
            · have : rung Ieee.double t < Ieee.double.infRung := Nat.lt_of_le_of_lt (wide_small rfl g2 ht) (by decide)
              omega
            · obtain ⟨r2, e2, hr2, _⟩ := wide_inf (b := w) (by omega)
              rw [ht] at e2; cases e2
              omega
          · intro hlt; omega
      have l1 := lt_iff ha hb hr hs
      have l2 := lt_iff hb ha hs hr
      exact congrArg some (cmp_congr (by omega) (by omega))

/-! products with 0 and 1, differences from 0 -/
/-- of the size with the number R -/
def mg (x : V) (R : Nat) : Prop := ∃ b, x = some b ∧ rung Ieee.single b = R ∧ R < Ieee.single.infRung
theorem rungOf_read {b : Nat} {s : Bool} {m : Nat} {i : Int} (h : rung Ieee.single b < Ieee.single.infRung) (hr : Ieee.single.read b = .number s m i) : rungOf Ieee.single m i = rung Ieee.single b := by
  obtain ⟨m', i', e, hp, hv⟩ := read_number Ieee.single h
  rw [hr] at e
  simp only [Ieee.Datum.number.injEq] at e
  obtain ⟨_, rfl, rfl⟩ := e
  have h0 : (Ieee.single.leastPlace - i).toNat = 0 := by clear hv; omega
  refine Nat.le_antisymm (rung_le Ieee.single ?_) (rung_ge Ieee.single (Nat.le_of_lt h) ?_)
  · rw [h0, Nat.pow_zero, Nat.mul_one, hv]; exact Nat.le_refl _
  · rw [h0, Nat.pow_zero, Nat.mul_one, hv]; exact Nat.le_refl _
theorem rungOf_zero (i : Int) : rungOf Ieee.single 0 i = 0 := Nat.le_zero.1 (rung_le Ieee.single (by rw [Nat.zero_mul]; exact Nat.zero_le _))
theorem mul_one_mg {y : V} {R : Nat} (h : mg y R) : mg (vop .mul .f32 (kcv .f32 1065353216) y) R := by
  obtain ⟨b, rfl, hb, hR⟩ := h
  have c1 : kcv .f32 1065353216 = some 1065353216 := by kernel_rfl
  have r1 : Ieee.single.read 1065353216 = .number false 8388608 (-23) := by decide
  obtain ⟨m, i, e, _, _⟩ := read_number Ieee.single (w := b) (by rw [hb]; exact hR)
  have hx := rungOf_read (by rw [hb]; exact hR) e
  refine ⟨Ieee.single.write (.number (false ^^ neg Ieee.single b) (8388608 * m) (-23 + i)), ?_, ?_, hR⟩
  · rw [c1]
    show Ieee.single.mul 1065353216 b = _
    unfold Ieee.Format.mul
    rw [r1, e]; rfl
  · rw [(rung_write_number _ _ _ _).1, rungOf_same Ieee.single (m := m) (i := i) (d := 23) (by omega) (by omega), hx, hb]
theorem mul_zero_mg {y : V} {R : Nat} (h : mg y R) : mg (vop .mul .f32 (kcv .f32 0) y) 0 := by
  obtain ⟨b, rfl, hb, hR⟩ := h
  have c1 : kcv .f32 0 = some 0 := by kernel_rfl
  have r1 : Ieee.single.read 0 = .number false 0 (-149) := by decide
  obtain ⟨m, i, e, _, _⟩ := read_number Ieee.single (w := b) (by rw [hb]; exact hR)
  refine ⟨Ieee.single.write (.number (false ^^ neg Ieee.single b) (0 * m) (-149 + i)), ?_, ?_, by rw [inf32]; omega⟩
  · rw [c1]
    show Ieee.single.mul 0 b = _
    unfold Ieee.Format.mul
    rw [r1, e]; rfl
  · rw [(rung_write_number _ _ _ _).1, Nat.zero_mul, rungOf_zero]
theorem mag_zero {b : Nat} {s : Bool} {m : Nat} {i : Int} (h : rung Ieee.single b = 0) (hr : Ieee.single.read b = .number s m i) : m = 0 := by
  obtain ⟨m', i', e, hp, hv⟩ := read_number Ieee.single (w := b) (by rw [h, inf32]; omega)
  rw [hr] at e
  simp only [Ieee.Datum.number.injEq] at e
  obtain ⟨_, rfl, rfl⟩ := e
  rw [h, val_zero (binade_pos _)] at hv
  rcases Nat.mul_eq_zero.1 hv with h | h
  · exact h
  · have := Nat.two_pow_pos (i - Ieee.single.leastPlace).toNat; omega
theorem signed_zero (s : Bool) (u : Nat) : Ieee.signed s 0 u = 0 := by
  have := natAbs_signed s 0 u
  rw [Nat.zero_mul] at this
  omega
theorem sub_zero_mg {x y : V} {R : Nat} (hx : mg x R) (hy : mg y 0) : mg (vop .sub .f32 x y) R := by
  obtain ⟨a, rfl, ha, hR⟩ := hx
  obtain ⟨b, rfl, hb, hR0⟩ := hy
  obtain ⟨m, i, ea, _, _⟩ := read_number Ieee.single (w := a) (by rw [ha]; exact hR)
  obtain ⟨n, j, eb, _, _⟩ := read_number Ieee.single (w := b) (by rw [hb]; exact hR0)
  have hn := mag_zero hb eb
  subst hn
  have hxa := rungOf_read (by rw [ha]; exact hR) ea
  refine ⟨Ieee.single.write (.number (if Ieee.signed (neg Ieee.single a) m (i - min i j).toNat + Ieee.signed (!neg Ieee.single b) 0 (j - min i j).toNat = 0 then neg Ieee.single a && !neg Ieee.single b else decide (Ieee.signed (neg Ieee.single a) m (i - min i j).toNat + Ieee.signed (!neg Ieee.single b) 0 (j - min i j).toNat < 0)) (Ieee.signed (neg Ieee.single a) m (i - min i j).toNat + Ieee.signed (!neg Ieee.single b) 0 (j - min i j).toNat).natAbs (min i j)), ?_, ?_, hR⟩
  · show Ieee.single.sub a b = _
    unfold Ieee.Format.sub
    rw [ea, eb]; rfl
  · rw [(rung_write_number _ _ _ _).1, signed_zero, Int.add_zero, natAbs_signed, rungOf_same Ieee.single (m := m) (i := i) (d := (i - min i j).toNat) rfl (by omega), hxa, ha]
theorem zero_sub_mg {x y : V} {R : Nat} (hx : mg x 0) (hy : mg y R) : mg (vop .sub .f32 x y) R := by
  obtain ⟨a, rfl, ha, hR0⟩ := hx
  obtain ⟨b, rfl, hb, hR⟩ := hy
  obtain ⟨m, i, ea, _, _⟩ := read_number Ieee.single (w := a) (by rw [ha]; exact hR0)
  obtain ⟨n, j, eb, _, _⟩ := read_number Ieee.single (w := b) (by rw [hb]; exact hR)
  have hn := mag_zero ha ea
  subst hn
  have hxb := rungOf_read (by rw [hb]; exact hR) eb
  refine ⟨Ieee.single.write (.number (if Ieee.signed (neg Ieee.single a) 0 (i - min i j).toNat + Ieee.signed (!neg Ieee.single b) n (j - min i j).toNat = 0 then neg Ieee.single a && !neg Ieee.single b else decide (Ieee.signed (neg Ieee.single a) 0 (i - min i j).toNat + Ieee.signed (!neg Ieee.single b) n (j - min i j).toNat < 0)) (Ieee.signed (neg Ieee.single a) 0 (i - min i j).toNat + Ieee.signed (!neg Ieee.single b) n (j - min i j).toNat).natAbs (min i j)), ?_, ?_, hR⟩
  · show Ieee.single.sub a b = _
    unfold Ieee.Format.sub
    rw [ea, eb]; rfl
  · rw [(rung_write_number _ _ _ _).1, signed_zero, Int.zero_add, natAbs_signed, rungOf_same Ieee.single (m := n) (i := j) (d := (j - min i j).toNat) rfl (by omega), hxb, hb]

/-! roots are not too large -/
theorem rootFrom_sq (n : Nat) : ∀ t r, r * r ≤ n → Ieee.Datum.rootFrom n t r * Ieee.Datum.rootFrom n t r ≤ n := by
  intro t
  induction t with
  | zero => intro r h; simpa [Ieee.Datum.rootFrom] using h
  | succ t ih =>
    intro r h
    unfold Ieee.Datum.rootFrom
    simp only
    split
    · exact ih _ (by assumption)
    · exact ih _ h
theorem root_upper {m : Nat} {i s : Int} {d : Ieee.Datum} (h : Ieee.Datum.root 54 (.number false m i) = some d) (hm : m ≠ 0) (hs : ∀ u v : Nat, (u : Int) + 2 * s = v + i → m * 2 ^ u ≤ 2 ^ v) :
    ∃ M j, d = .number false M j ∧ ∀ u v : Nat, (u : Int) + s = v + j → M * 2 ^ u ≤ 2 ^ v := by
  simp only [Ieee.Datum.root, if_neg hm] at h
  simp only [Bool.false_eq_true, if_false, Option.some.injEq] at h
  subst h
  refine ⟨_, _, rfl, ?_⟩
  generalize hmore : 2 * 54 - m.log2 + ((i - (2 * 54 - m.log2 : Nat)) % 2).toNat = more
  obtain ⟨t, ht⟩ : ∃ t : Int, i - more = 2 * t := ⟨(i - more) / 2, by omega⟩
  have hdiv : (i - (more : Int)) / 2 = t := by omega
  intro u v huv
  rw [hdiv] at huv
  generalize hN : m <<< more = N
  have hsq := rootFrom_sq N (N.log2 / 2 + 1) 0 (by omega)
  rcases Int.le_total t s with g | g
  · obtain ⟨k, hk⟩ : ∃ k : Nat, s = t + k := ⟨(s - t).toNat, by omega⟩
    have h1 : N ≤ 2 ^ (k + k) := by
      rw [← hN, Nat.shiftLeft_eq]
      exact hs more (k + k) (by omega)
    obtain rfl : v = (k + 1) + u := by omega
    rw [Nat.pow_add 2 (k + 1) u]
    refine Nat.mul_le_mul_right _ ?_
    generalize Ieee.Datum.rootFrom N (N.log2 / 2 + 1) 0 = W at hsq ⊢
    have hW : W ≤ 2 ^ k := by
      rcases Nat.lt_or_ge (2 ^ k) W with g2 | g2
      · exfalso
        have h2 := Nat.mul_le_mul (Nat.succ_le_of_lt g2) (Nat.succ_le_of_lt g2)
        have h3 : 2 ^ (k + k) = 2 ^ k * 2 ^ k := Nat.pow_add _ _ _
        have h4 : (2 ^ k).succ * (2 ^ k).succ = 2 ^ k * 2 ^ k + 2 ^ k + 2 ^ k + 1 := by rw [Nat.succ_mul, Nat.mul_succ]; omega
        rw [h4] at h2
        rw [h3] at h1
        clear h4 h3 hs hdiv ht hmore huv
        generalize 2 ^ k * 2 ^ k = X at h1 h2
        generalize 2 ^ k = Y at h2
        clear g2
        omega
      · exact g2
    rw [Nat.pow_succ]
    rcases Nat.lt_or_ge W (2 ^ k) with g3 | g3
    · have hb : ∀ c : Bool, c.toNat ≤ 1 := by decide
      have := hb (W * W != N)
      omega
    · have e : W = 2 ^ k := by omega
      subst e
      have e2 : 2 ^ k * 2 ^ k = N := by
        have h3 : 2 ^ (k + k) = 2 ^ k * 2 ^ k := Nat.pow_add _ _ _
        omega
      rw [e2]
      simp; omega
  · rcases Int.lt_or_le s t with g2 | g2
    · exfalso
      obtain ⟨k, hk⟩ : ∃ k : Nat, t = s + (k + 1 : Nat) := ⟨(t - s - 1).toNat, by omega⟩
      have h1 := hs (more + (k + 1) + (k + 1)) 0 (by omega)
      have h2 : 2 ≤ 2 ^ (more + (k + 1) + (k + 1)) := by
        have : 2 ^ 1 ≤ 2 ^ (more + (k + 1) + (k + 1)) := Nat.pow_le_pow_right (by omega) (by omega)
        omega
      have h3 : 1 * 2 ≤ m * 2 ^ (more + (k + 1) + (k + 1)) := Nat.mul_le_mul (by omega) h2
      rw [Nat.pow_zero] at h1
      omega
    · have e : s = t := by omega
      subst e
      have h1 : N ≤ 2 ^ (0 + 0) := by
        rw [← hN, Nat.shiftLeft_eq]
        exact hs more (0 + 0) (by omega)
      obtain rfl : v = 1 + u := by omega
      rw [Nat.pow_add 2 1 u]
      refine Nat.mul_le_mul_right _ ?_
      generalize Ieee.Datum.rootFrom N (N.log2 / 2 + 1) 0 = W at hsq ⊢
      have hN1 : N ≤ 1 := h1
      have hW : W ≤ 1 := by
        rcases Nat.lt_or_ge 1 W with g3 | g3
        · exfalso
          have := Nat.mul_le_mul g3 g3
          omega
        · exact g3
      rcases Nat.lt_or_ge W 1 with g4 | g4
      · have hb : ∀ c : Bool, c.toNat ≤ 1 := by decide
        have := hb (W * W != N)
        omega
      · have e : W = 1 := by omega
        subst e
        have e2 : N = 1 := by omega
        subst e2
        decide
theorem narrow_le {q b R E : Nat} (hE : E = 925) (h : floatToFloatBits .f64 q .f32 = some b) (hq : rung Ieee.double q < Ieee.double.infRung)
    (hR : val Ieee.double.binade (rung Ieee.double q) ≤ val Ieee.single.binade R * 2 ^ E) : rung Ieee.single b ≤ R := by
  obtain ⟨m, p, e, hp, hv⟩ := read_number Ieee.double hq
  have e' : FloatKind.f64.decode q = _ := e
  unfold floatToFloatBits at h
  rw [if_neg (by decide), e'] at h
  simp only at h
  split at h
  · cases h
  · cases h
    have hr := rung_write_number Ieee.single (neg Ieee.double q) m p
    show rung Ieee.single (Ieee.single.write (.number (neg Ieee.double q) m p)) ≤ R
    rw [hr.1]
    refine rung_le Ieee.single ?_
    have hl : Ieee.single.leastPlace = -149 := by decide
    have hd : Ieee.double.leastPlace = -1074 := by decide
    rw [← hv] at hR
    rw [hd] at hR hp
    rw [hl]
    exact (scale (e1 := (p - -1074).toNat) (e2 := E) (by clear hR hv; omega)).1 hR
theorem root_bd {k e a : Nat} (h : rung Ieee.single a ≤ k * Ieee.single.binade) (na : neg Ieee.single a = false) (hk : e + e = k + 127) (l : 0 < k ∧ k ≤ 254 ∧ 0 < e ∧ e ≤ 254) : ∃ b, rootV (some a) = some b ∧ rung Ieee.single b ≤ e * Ieee.single.binade := by
  have ra := fin_of_bd l.2.1 h
  obtain ⟨r, m0, p0, hw, _, hneg, _, _⟩ := wide_some ra
  have hE : ∃ E, E = 925 := ⟨_, rfl⟩
  obtain ⟨E, hE⟩ := hE
  have hsm := wide_small rfl ra hw
  have hinf : (1150 + 1) * Ieee.double.binade < Ieee.double.infRung := by decide
  have rr : rung Ieee.double r < Ieee.double.infRung := Nat.lt_of_le_of_lt hsm hinf
  obtain ⟨A, hA⟩ : ∃ A, A = k + 22 := ⟨_, rfl⟩
  have up : val Ieee.double.binade (rung Ieee.double r) ≤ 2 ^ (A + E) := by
    rw [wide_exact hE ra hw, Nat.pow_add]
    exact Nat.mul_le_mul_right _ (val_bd l.1 hA h)
  obtain ⟨m, i, er, hp, hv⟩ := read_number Ieee.double rr
  have hd : Ieee.double.leastPlace = -1074 := by decide
  rw [← hv, hd] at up
  rw [hd] at hp
  by_cases hm : m = 0
  · subst hm
    have hq : Ieee.double.sqrt r = some (Ieee.double.write (.number (neg Ieee.double r) 0 i)) := by
      unfold Ieee.Format.sqrt
      rw [er]; rfl
    have hqs := sqrt_rung rfl hsm hq
    have hinf2 : (1118 + 1) * Ieee.double.binade < Ieee.double.infRung := by decide
    obtain ⟨b, hb⟩ := narrow_ok rfl rfl hqs
    refine ⟨b, ?_, ?_⟩
    · unfold rootV
      rw [hw]
      show narrow (Ieee.double.sqrt r) = _
      rw [hq]; exact hb
    · refine Nat.le_trans (narrow_le (R := 0) hE hb (by omega) ?_) (Nat.zero_le _)
      rw [(rung_write_number _ _ _ _).1]
      have : rungOf Ieee.double 0 i = 0 := Nat.le_zero.1 (rung_le Ieee.double (by rw [Nat.zero_mul]; exact Nat.zero_le _))
      rw [this, val_zero (binade_pos _)]; exact Nat.zero_le _
  cases hroot : Ieee.Datum.root 54 (.number false m i) with
  | none => simp [Ieee.Datum.root, hm] at hroot
  | some dd =>
    obtain ⟨M, j, rfl, hup⟩ := root_upper (s := (e : Int) - 127) hroot hm (fun u v huv => by
      have := (scale (x := m) (y := 1) (e1 := (i - -1074).toNat) (e2 := A + E) (e3 := u) (e4 := v) (by rw [hA, hE]; clear up hv; omega)).1 (by rw [Nat.one_mul]; exact up)
      rwa [Nat.one_mul] at this)
    have hq : Ieee.double.sqrt r = some (Ieee.double.write (.number false M j)) := by
      unfold Ieee.Format.sqrt
      rw [er, hneg, na]
      show (Ieee.Datum.root 54 _).map _ = _
      rw [hroot]; rfl
    have hqs := sqrt_rung rfl hsm hq
    have hinf2 : (1118 + 1) * Ieee.double.binade < Ieee.double.infRung := by decide
    obtain ⟨c, rfl⟩ : ∃ c, e = c + 1 := ⟨e - 1, by omega⟩
    have up3 : rung Ieee.double (Ieee.double.write (.number false M j)) ≤ (c + 896 + 1) * Ieee.double.binade := by
      rw [(rung_write_number _ _ _ _).1]
      refine rung_le Ieee.double ?_
      obtain ⟨B, hB⟩ : ∃ B, B = c + 948 := ⟨_, rfl⟩
      rw [val_double (A := B) (by omega), hd, ← Nat.pow_add]
      exact hup _ _ (by omega)
    obtain ⟨b, hb⟩ := narrow_ok rfl rfl hqs
    refine ⟨b, ?_, ?_⟩
    · unfold rootV
      rw [hw]
      show narrow (Ieee.double.sqrt r) = _
      rw [hq]; exact hb
    · refine narrow_le hE hb (by omega) ?_
      obtain ⟨B, hB⟩ : ∃ B, B = c + 23 := ⟨_, rfl⟩
      rw [val_single (A := B) (by omega), ← Nat.pow_add]
      rw [← val_double (A := B + E) (d := c + 896) (by rw [hB, hE]; omega)]
      exact (val_le (binade_pos _)).2 up3
end Go.Proofs.Yteckjpdfecgljaa
