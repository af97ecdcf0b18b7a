/- Plain facts: sizes of sums and products; roots are finite and not negative. -/
import Derived.Test.YteckjpdfecgljaaMathC
namespace Go.Proofs.Yteckjpdfecgljaa
open Go.RowKit Go.Flo
set_option linter.unusedSimpArgs false

/-- a number of at most 2 ^ (e - 127) in size -/
def bd (e : Nat) (x : V) : Prop := ∃ b, x = some b ∧ rung Ieee.single b ≤ e * Ieee.single.binade

theorem val_bd {e r A : Nat} (he : 0 < e) (hA : A = e + 22) (h : r ≤ e * Ieee.single.binade) : val Ieee.single.binade r ≤ 2 ^ A := by
  obtain ⟨d, rfl⟩ : ∃ d, e = d + 1 := ⟨e - 1, by omega⟩
  have h1 : val Ieee.single.binade ((d + 1) * Ieee.single.binade) = 2 ^ A := val_single (by omega)
  rw [← h1]; exact (val_le (binade_pos _)).2 h

theorem fin_of_bd {e b : Nat} (he : e ≤ 254) (h : rung Ieee.single b ≤ e * Ieee.single.binade) : rung Ieee.single b < Ieee.single.infRung := by
  have hb : Ieee.single.binade = 8388608 := by decide
  rw [inf32]; rw [hb] at h; omega

theorem bd_mul {e1 e2 e : Nat} {x y : V} (h1 : bd e1 x) (h2 : bd e2 y) (l1 : 0 < e1 ∧ e1 ≤ 254) (l2 : 0 < e2 ∧ e2 ≤ 254) (he : e1 + e2 = e + 127) (l : 0 < e) : bd e (mul x y) := by
  obtain ⟨a, rfl, ha⟩ := h1
  obtain ⟨b, rfl, hb⟩ := h2
  obtain ⟨m, i, ea, pa, va⟩ := read_number Ieee.single (fin_of_bd l1.2 ha)
  obtain ⟨n, j, eb, pb, vb⟩ := read_number Ieee.single (fin_of_bd l2.2 hb)
  obtain ⟨A1, hA1⟩ : ∃ A1, A1 = e1 + 22 := ⟨_, rfl⟩
  obtain ⟨A2, hA2⟩ : ∃ A2, A2 = e2 + 22 := ⟨_, rfl⟩
  obtain ⟨A, hA⟩ : ∃ A, A = e + 22 := ⟨_, rfl⟩
  have wa := val_bd l1.1 hA1 ha
  have wb := val_bd l2.1 hA2 hb
  rw [← va] at wa; rw [← vb] at wb
  refine ⟨Ieee.single.write (.number (neg Ieee.single a ^^ neg Ieee.single b) (m * n) (i + j)), ?_, ?_⟩
  · show Ieee.single.mul a b = _
    unfold Ieee.Format.mul
    rw [ea, eb]; rfl
  · rw [(rung_write_number _ _ _ _).1]
    refine rung_le Ieee.single ?_
    obtain ⟨d, rfl⟩ : ∃ d, e = d + 1 := ⟨e - 1, by omega⟩
    rw [val_single (A := A) (by omega)]
    have hl : Ieee.single.leastPlace = -149 := by decide
    rw [hl] at wa wb pa pb ⊢
    have hm : m * n * 2 ^ ((i - -149).toNat + (j - -149).toNat) ≤ 1 * 2 ^ (A1 + A2) := by
      rw [Nat.pow_add, Nat.one_mul, Nat.pow_add]
      calc m * n * (2 ^ (i - -149).toNat * 2 ^ (j - -149).toNat) = (m * 2 ^ (i - -149).toNat) * (n * 2 ^ (j - -149).toNat) := by
            rw [Nat.mul_assoc, Nat.mul_assoc, Nat.mul_left_comm n]
        _ ≤ 2 ^ A1 * 2 ^ A2 := Nat.mul_le_mul wa wb
    have := (scale (e3 := (i + j - -149).toNat) (e4 := A + (-149 - (i + j)).toNat) (by clear hm wa wb va vb; omega)).1 hm
    rw [Nat.one_mul, Nat.pow_add] at this
    exact this

theorem natAbs_signed (s : Bool) (m u : Nat) : (Ieee.signed s m u).natAbs = m * 2 ^ u := by
  unfold Ieee.signed; rw [Nat.shiftLeft_eq]; split <;> omega

theorem sum_bd {e a b : Nat} {s t : Bool} {m n : Nat} {i j : Int} (l : 0 < e ∧ e ≤ 253) (ha : rung Ieee.single a ≤ e * Ieee.single.binade) (hb : rung Ieee.single b ≤ e * Ieee.single.binade)
    (pa : Ieee.single.leastPlace ≤ i) (pb : Ieee.single.leastPlace ≤ j) (va : m * 2 ^ (i - Ieee.single.leastPlace).toNat = val Ieee.single.binade (rung Ieee.single a)) (vb : n * 2 ^ (j - Ieee.single.leastPlace).toNat = val Ieee.single.binade (rung Ieee.single b)) :
    ∃ r, (Ieee.Datum.sum (.number s m i) (.number t n j)).map Ieee.single.write = some r ∧ rung Ieee.single r ≤ (e + 1) * Ieee.single.binade := by
  obtain ⟨A, hA⟩ : ∃ A, A = e + 22 := ⟨_, rfl⟩
  have wa := val_bd l.1 hA ha
  have wb := val_bd l.1 hA hb
  rw [← va] at wa; rw [← vb] at wb
  simp only [Ieee.Datum.sum, Option.map_some]
  refine ⟨_, rfl, ?_⟩
  rw [(rung_write_number _ _ _ _).1]
  refine rung_le Ieee.single ?_
  have hl : Ieee.single.leastPlace = -149 := by decide
  rw [hl] at wa wb pa pb ⊢
  rw [val_single (A := A + 1) (by omega)]
  have e1 : (-149 - min i j).toNat = 0 := by clear wa wb va vb; omega
  rw [e1, Nat.pow_zero, Nat.mul_one, Nat.pow_succ, Nat.mul_two]
  have h3 : (Ieee.signed s m (i - min i j).toNat + Ieee.signed t n (j - min i j).toNat).natAbs ≤ m * 2 ^ (i - min i j).toNat + n * 2 ^ (j - min i j).toNat := by
    rw [← natAbs_signed s m, ← natAbs_signed t n]; exact Int.natAbs_add_le _ _
  refine Nat.le_trans (Nat.mul_le_mul_right _ h3) ?_
  rw [Nat.add_mul, Nat.mul_assoc, ← Nat.pow_add, Nat.mul_assoc, ← Nat.pow_add]
  have e2 : (i - min i j).toNat + (min i j - -149).toNat = (i - -149).toNat := by clear wa wb va vb h3; omega
  have e3 : (j - min i j).toNat + (min i j - -149).toNat = (j - -149).toNat := by clear wa wb va vb h3; omega
  rw [e2, e3]
  exact Nat.add_le_add wa wb

theorem bd_add {e : Nat} {x y : V} (h1 : bd e x) (h2 : bd e y) (l : 0 < e ∧ e ≤ 253) : bd (e + 1) (add x y) := by
  obtain ⟨a, rfl, ha⟩ := h1
  obtain ⟨b, rfl, hb⟩ := h2
  obtain ⟨m, i, ea, pa, va⟩ := read_number Ieee.single (fin_of_bd (by omega) ha)
  obtain ⟨n, j, eb, pb, vb⟩ := read_number Ieee.single (fin_of_bd (by omega) hb)
  obtain ⟨r, hr, hb⟩ := sum_bd (s := neg Ieee.single a) (t := neg Ieee.single b) l ha hb pa pb va vb
  refine ⟨r, ?_, hb⟩
  show Ieee.single.add a b = _
  unfold Ieee.Format.add
  rw [ea, eb]; exact hr

theorem bd_sub {e : Nat} {x y : V} (h1 : bd e x) (h2 : bd e y) (l : 0 < e ∧ e ≤ 253) : bd (e + 1) (sub x y) := by
  obtain ⟨a, rfl, ha⟩ := h1
  obtain ⟨b, rfl, hb⟩ := h2
  obtain ⟨m, i, ea, pa, va⟩ := read_number Ieee.single (fin_of_bd (by omega) ha)
  obtain ⟨n, j, eb, pb, vb⟩ := read_number Ieee.single (fin_of_bd (by omega) hb)
  obtain ⟨r, hr, hb⟩ := sum_bd (s := neg Ieee.single a) (t := !neg Ieee.single b) l ha hb pa pb va vb
  refine ⟨r, ?_, hb⟩
  show Ieee.single.sub a b = _
  unfold Ieee.Format.sub
  rw [ea, eb]; exact hr

theorem bd_mono {e e' : Nat} {x : V} (h : bd e x) (hl : e ≤ e') : bd e' x := by
  obtain ⟨b, rfl, hb⟩ := h
  exact ⟨b, rfl, Nat.le_trans hb (Nat.mul_le_mul_right _ hl)⟩

theorem bd_plain {b : Nat} (h : plainV (kcv .f32 b) = true) : bd 147 (kcv .f32 b) := by
  rcases cases32 b with g | ⟨g, g2⟩
  · rw [g] at h; unfold plainV at h; rw [ge_none] at h; cases h
  · refine ⟨b, g, ?_⟩
    rw [g] at h
    have h1 : c32 3379831808 = some 3379831808 := by kernel_rfl
    have h2 : c32 1232348160 = some 1232348160 := by kernel_rfl
    have k1 : key Ieee.single 3379831808 = -1232348160 := by decide
    have k2 : key Ieee.single 1232348160 = 1232348160 := by decide
    unfold plainV at h
    rw [h1, h2, ge_some g2 (by decide), le_some g2 (by decide), k1, k2] at h
    simp only [Bool.and_eq_true, decide_eq_true_eq] at h
    have hb : Ieee.single.binade = 8388608 := by decide
    rw [hb]
    rcases key_abs b with k | k <;> rw [k] at h <;> omega

theorem narrow_some {q b : Nat} (h : floatToFloatBits .f64 q .f32 = some b) (hq : rung Ieee.double q < Ieee.double.infRung) :
    rung Ieee.single b < Ieee.single.infRung ∧ neg Ieee.single b = neg Ieee.double q ∧ (rung Ieee.double q = 0 → rung Ieee.single b = 0) := by
  obtain ⟨m, p, e, _, hv⟩ := read_number Ieee.double hq
  have e' : FloatKind.f64.decode q = _ := e
  unfold floatToFloatBits at h
  rw [if_neg (by decide), e'] at h
  simp only at h
  split at h
  · cases h
  · rename_i hi
    cases h
    have hr := rung_write_number Ieee.single (neg Ieee.double q) m p
    refine ⟨?_, hr.2, fun hz => ?_⟩
    · rcases Nat.lt_or_ge (rungOf Ieee.single m p) Ieee.single.infRung with g | g
      · exact Nat.lt_of_le_of_lt (Nat.le_of_eq hr.1) g
      · exfalso
        apply hi
        have h3 : rung Ieee.single (FloatKind.f32.encode (.number (neg Ieee.double q) m p)) = Ieee.single.infRung := by
          have := rungOf_le_inf Ieee.single m p
          exact hr.1.trans (by omega)
        have h4 : FloatKind.f32.decode _ = _ := read_inf good_single h3
        rw [h4]; rfl
    · rw [hz, val_zero (binade_pos _)] at hv
      have hm : m = 0 := by
        rcases Nat.eq_zero_or_pos m with g | g
        · exact g
        · have := Nat.mul_pos g (Nat.two_pow_pos (p - Ieee.double.leastPlace).toNat); omega
      refine hr.1.trans ?_
      rw [hm]; unfold rungOf; rw [if_pos rfl]

theorem sqrt_some {r q : Nat} (h : Ieee.double.sqrt r = some q) (hr : rung Ieee.double r < Ieee.double.infRung) : neg Ieee.double q = false ∨ rung Ieee.double q = 0 := by
  obtain ⟨m, p, e, _, _⟩ := read_number Ieee.double hr
  unfold Ieee.Format.sqrt at h
  rw [e] at h
  simp only [Ieee.Datum.root] at h
  split at h
  · rename_i hm
    cases h
    right
    rw [(rung_write_number Ieee.double _ _ _).1, hm]; unfold rungOf; rw [if_pos rfl]
  · split at h
    · cases h
    · cases h
      left
      exact (rung_write_number Ieee.double _ _ _).2

/-- the root is none, or not negative; and finite where the number is -/
theorem root_sign {x b : Nat} (h : rootV (some x) = some b) (hx : rung Ieee.single x < Ieee.single.infRung) : 0 ≤ key Ieee.single b ∧ rung Ieee.single b < Ieee.single.infRung := by
  unfold rootV at h
  obtain ⟨r, m, p, e, _⟩ := wide_some hx
  rw [e] at h
  have hr := wide_small rfl hx e
  have hinf : (1150 + 1) * Ieee.double.binade < Ieee.double.infRung := by decide
  have hinf2 : (1118 + 1) * Ieee.double.binade < Ieee.double.infRung := by decide
  cases hq : Ieee.double.sqrt r with
  | none =>
    have h' : narrow (Ieee.double.sqrt r) = some b := h
    rw [hq] at h'; cases h'
  | some q =>
    have h' : narrow (Ieee.double.sqrt r) = some b := h
    rw [hq] at h'
    have h2 : floatToFloatBits .f64 q .f32 = some b := h'
    have hqs := sqrt_rung rfl hr hq
    obtain ⟨g1, g2, g3⟩ := narrow_some h2 (by omega)
    refine ⟨?_, g1⟩
    rcases sqrt_some hq (by omega) with hn | hz
    · unfold key; rw [g2, hn]; simp
    · unfold key; rw [g3 hz]; split <;> simp

theorem root_fin {x : V} {b : Nat} (h : rootV x = some b) {e : Nat} (hx : bd e x) (he : e ≤ 254) : 0 ≤ key Ieee.single b ∧ rung Ieee.single b < Ieee.single.infRung := by
  obtain ⟨a, rfl, ha⟩ := hx
  exact root_sign h (fin_of_bd he ha)

/-! the two ways to a unit agree on points whose length is not infinite -/
theorem finV_num {b : Nat} (h : rung Ieee.single b < Ieee.single.infRung) : finV (some b) = true := by
  rw [fin_some (Nat.le_of_lt h)]; simp [h]
theorem small_pos {b : Nat} (h : rung Ieee.single b < Ieee.single.infRung) (hk : 0 ≤ key Ieee.single b) : smallI (some b) = !ge (some b) (c32 897581056) := by
  rw [small_eq (Nat.le_of_lt h), smallS_some (Nat.le_of_lt h)]
  have h1 : c32 897581056 = some 897581056 := by kernel_rfl
  have k1 : key Ieee.single 897581056 = 897581056 := by decide
  rw [h1, ge_some (Nat.le_of_lt h) (by decide), k1, Bool.eq_iff_iff]
  rcases key_abs b with k | k <;> rw [k] at hk ⊢ <;> simp <;> omega
end Go.Proofs.Yteckjpdfecgljaa
