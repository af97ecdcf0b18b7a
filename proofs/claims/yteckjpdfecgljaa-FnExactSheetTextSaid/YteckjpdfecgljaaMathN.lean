/- Plain facts: sizes of wide sums, products and quotients. -/
import Derived.Test.YteckjpdfecgljaaMathF
namespace Go.Proofs.Yteckjpdfecgljaa
open Go.RowKit Go.Flo
set_option linter.unusedSimpArgs false
theorem inf64 : Ieee.double.infRung = 9218868437227405312 := by decide
theorem val_lbd64 {e r A : Nat} (he : 0 < e) (hA : A = e + 51) (h : e * Ieee.double.binade ≤ r) : 2 ^ A ≤ val Ieee.double.binade r := by
  obtain ⟨d, rfl⟩ : ∃ d, e = d + 1 := ⟨e - 1, by omega⟩
  have h1 : val Ieee.double.binade ((d + 1) * Ieee.double.binade) = 2 ^ A := val_double (by omega)
  rw [← h1]; exact (val_le (binade_pos _)).2 h

/-- a number of at most 2 ^ (e - 1023) in size -/
def bd64 (e : Nat) (x : V) : Prop := ∃ b, x = some b ∧ rung Ieee.double b ≤ e * Ieee.double.binade

theorem val_bd64 {e r A : Nat} (he : 0 < e) (hA : A = e + 51) (h : r ≤ e * Ieee.double.binade) : val Ieee.double.binade r ≤ 2 ^ A := by
  obtain ⟨d, rfl⟩ : ∃ d, e = d + 1 := ⟨e - 1, by omega⟩
  have h1 : val Ieee.double.binade ((d + 1) * Ieee.double.binade) = 2 ^ A := val_double (by omega)
  rw [← h1]; exact (val_le (binade_pos _)).2 h

theorem fin_of_bd64 {e b : Nat} (he : e ≤ 2046) (h : rung Ieee.double b ≤ e * Ieee.double.binade) : rung Ieee.double b < Ieee.double.infRung := by
  have hb : Ieee.double.binade = 4503599627370496 := by decide
  rw [inf64]; rw [hb] at h; omega

theorem bd_mul64 {e1 e2 e : Nat} {x y : V} (h1 : bd64 e1 x) (h2 : bd64 e2 y) (l1 : 0 < e1 ∧ e1 ≤ 2046) (l2 : 0 < e2 ∧ e2 ≤ 2046) (he : e1 + e2 = e + 1023) (l : 0 < e) : bd64 e (vop .mul .f64 x y) := by
  obtain ⟨a, rfl, ha⟩ := h1
  obtain ⟨b, rfl, hb⟩ := h2
  obtain ⟨m, i, ea, pa, va⟩ := read_number Ieee.double (fin_of_bd64 l1.2 ha)
  obtain ⟨n, j, eb, pb, vb⟩ := read_number Ieee.double (fin_of_bd64 l2.2 hb)
  obtain ⟨A1, hA1⟩ : ∃ A1, A1 = e1 + 51 := ⟨_, rfl⟩
  obtain ⟨A2, hA2⟩ : ∃ A2, A2 = e2 + 51 := ⟨_, rfl⟩
  obtain ⟨A, hA⟩ : ∃ A, A = e + 51 := ⟨_, rfl⟩
  have wa := val_bd64 l1.1 hA1 ha
  have wb := val_bd64 l2.1 hA2 hb
  rw [← va] at wa; rw [← vb] at wb
  refine ⟨Ieee.double.write (.number (neg Ieee.double a ^^ neg Ieee.double b) (m * n) (i + j)), ?_, ?_⟩
  · show Ieee.double.mul a b = _
    unfold Ieee.Format.mul
    rw [ea, eb]; rfl
  · rw [(rung_write_number _ _ _ _).1]
    refine rung_le Ieee.double ?_
    obtain ⟨d, rfl⟩ : ∃ d, e = d + 1 := ⟨e - 1, by omega⟩
    rw [val_double (A := A) (by omega)]
    have hl : Ieee.double.leastPlace = -1074 := by decide
    rw [hl] at wa wb pa pb ⊢
    have hm : m * n * 2 ^ ((i - -1074).toNat + (j - -1074).toNat) ≤ 1 * 2 ^ (A1 + A2) := by
      rw [Nat.pow_add, Nat.one_mul, Nat.pow_add]
      calc m * n * (2 ^ (i - -1074).toNat * 2 ^ (j - -1074).toNat) = (m * 2 ^ (i - -1074).toNat) * (n * 2 ^ (j - -1074).toNat) := by
            rw [Nat.mul_assoc, Nat.mul_assoc, Nat.mul_left_comm n]
        _ ≤ 2 ^ A1 * 2 ^ A2 := Nat.mul_le_mul wa wb
    have := (scale (e3 := (i + j - -1074).toNat) (e4 := A + (-1074 - (i + j)).toNat) (by clear hm wa wb va vb; omega)).1 hm
    rw [Nat.one_mul, Nat.pow_add] at this
    exact this

theorem sum_bd64 {e a b : Nat} {s t : Bool} {m n : Nat} {i j : Int} (l : 0 < e ∧ e ≤ 2045) (ha : rung Ieee.double a ≤ e * Ieee.double.binade) (hb : rung Ieee.double b ≤ e * Ieee.double.binade)
    (pa : Ieee.double.leastPlace ≤ i) (pb : Ieee.double.leastPlace ≤ j) (va : m * 2 ^ (i - Ieee.double.leastPlace).toNat = val Ieee.double.binade (rung Ieee.double a)) (vb : n * 2 ^ (j - Ieee.double.leastPlace).toNat = val Ieee.double.binade (rung Ieee.double b)) :
    ∃ r, (Ieee.Datum.sum (.number s m i) (.number t n j)).map Ieee.double.write = some r ∧ rung Ieee.double r ≤ (e + 1) * Ieee.double.binade := by
  obtain ⟨A, hA⟩ : ∃ A, A = e + 51 := ⟨_, rfl⟩
  have wa := val_bd64 l.1 hA ha
  have wb := val_bd64 l.1 hA hb
  rw [← va] at wa; rw [← vb] at wb
  simp only [Ieee.Datum.sum, Option.map_some]
  refine ⟨_, rfl, ?_⟩
  rw [(rung_write_number _ _ _ _).1]
  refine rung_le Ieee.double ?_
  have hl : Ieee.double.leastPlace = -1074 := by decide
  rw [hl] at wa wb pa pb ⊢
  rw [val_double (A := A + 1) (by omega)]
  have e1 : (-1074 - min i j).toNat = 0 := by clear wa wb va vb; omega
  rw [e1, Nat.pow_zero, Nat.mul_one, Nat.pow_succ, Nat.mul_two]
  have h3 : (Ieee.signed s m (i - min i j).toNat + Ieee.signed t n (j - min i j).toNat).natAbs ≤ m * 2 ^ (i - min i j).toNat + n * 2 ^ (j - min i j).toNat := by
    rw [← natAbs_signed s m, ← natAbs_signed t n]; exact Int.natAbs_add_le _ _
  refine Nat.le_trans (Nat.mul_le_mul_right _ h3) ?_
  rw [Nat.add_mul, Nat.mul_assoc, ← Nat.pow_add, Nat.mul_assoc, ← Nat.pow_add]
  have e2 : (i - min i j).toNat + (min i j - -1074).toNat = (i - -1074).toNat := by clear wa wb va vb h3; omega
  have e3 : (j - min i j).toNat + (min i j - -1074).toNat = (j - -1074).toNat := by clear wa wb va vb h3; omega
  rw [e2, e3]
  exact Nat.add_le_add wa wb

theorem bd_add64 {e : Nat} {x y : V} (h1 : bd64 e x) (h2 : bd64 e y) (l : 0 < e ∧ e ≤ 2045) : bd64 (e + 1) (vop .add .f64 x y) := by
  obtain ⟨a, rfl, ha⟩ := h1
  obtain ⟨b, rfl, hb⟩ := h2
  obtain ⟨m, i, ea, pa, va⟩ := read_number Ieee.double (fin_of_bd64 (by omega) ha)
  obtain ⟨n, j, eb, pb, vb⟩ := read_number Ieee.double (fin_of_bd64 (by omega) hb)
  obtain ⟨r, hr, hb⟩ := sum_bd64 (s := neg Ieee.double a) (t := neg Ieee.double b) l ha hb pa pb va vb
  refine ⟨r, ?_, hb⟩
  show Ieee.double.add a b = _
  unfold Ieee.Format.add
  rw [ea, eb]; exact hr

theorem bd_sub64 {e : Nat} {x y : V} (h1 : bd64 e x) (h2 : bd64 e y) (l : 0 < e ∧ e ≤ 2045) : bd64 (e + 1) (vop .sub .f64 x y) := by
  obtain ⟨a, rfl, ha⟩ := h1
  obtain ⟨b, rfl, hb⟩ := h2
  obtain ⟨m, i, ea, pa, va⟩ := read_number Ieee.double (fin_of_bd64 (by omega) ha)
  obtain ⟨n, j, eb, pb, vb⟩ := read_number Ieee.double (fin_of_bd64 (by omega) hb)
  obtain ⟨r, hr, hb⟩ := sum_bd64 (s := neg Ieee.double a) (t := !neg Ieee.double b) l ha hb pa pb va vb
  refine ⟨r, ?_, hb⟩
  show Ieee.double.sub a b = _
  unfold Ieee.Format.sub
  rw [ea, eb]; exact hr

theorem bd_mono64 {e e' : Nat} {x : V} (h : bd64 e x) (hl : e ≤ e') : bd64 e' x := by
  obtain ⟨b, rfl, hb⟩ := h
  exact ⟨b, rfl, Nat.le_trans hb (Nat.mul_le_mul_right _ hl)⟩

/-- a finite number of at least 2 ^ (e - 1023) in size -/
def abd64 (e : Nat) (x : V) : Prop := ∃ b, x = some b ∧ e * Ieee.double.binade ≤ rung Ieee.double b ∧ rung Ieee.double b < Ieee.double.infRung
theorem bd_div64 {a s e : Nat} {x y : V} (hx : bd64 a x) (hy : abd64 s y) (l1 : 0 < a ∧ a ≤ 2046) (l2 : 0 < s ∧ s ≤ 2046) (he : a + 1023 = e + s) (l : 0 < e) : bd64 e (vop .quo .f64 x y) := by
  obtain ⟨x, rfl, ha⟩ := hx
  obtain ⟨y, rfl, hb, ry⟩ := hy
  obtain ⟨m, i, ea, pa, va⟩ := read_number Ieee.double (fin_of_bd64 l1.2 ha)
  obtain ⟨n, j, eb, pb, vb⟩ := read_number Ieee.double ry
  obtain ⟨A, hA⟩ : ∃ A, A = a + 51 := ⟨_, rfl⟩
  obtain ⟨S, hS⟩ : ∃ S, S = s + 51 := ⟨_, rfl⟩
  have wa := val_bd64 l1.1 hA ha
  have wb := val_lbd64 l2.1 hS hb
  have hl : Ieee.double.leastPlace = -1074 := by decide
  rw [← va] at wa; rw [← vb] at wb
  rw [hl] at wa wb pa pb
  have hn : n ≠ 0 := by
    intro h0; rw [h0, Nat.zero_mul] at wb
    have := Nat.two_pow_pos S; omega
  by_cases hm : m = 0
  · refine ⟨Ieee.double.write (.number (neg Ieee.double x ^^ neg Ieee.double y) 0 (i - j - (54 + n.log2 - m.log2 : Nat) - 1)), ?_, ?_⟩
    · show Ieee.double.div x y = _
      unfold Ieee.Format.div
      rw [ea, eb]
      show (Ieee.Datum.quotient 54 _ _).map _ = _
      simp only [Ieee.Datum.quotient, if_neg hn]
      subst hm
      simp
    · rw [(rung_write_number _ _ _ _).1]; unfold rungOf; rw [if_pos rfl]; exact Nat.zero_le _
  · generalize hmore : 54 + n.log2 - m.log2 = more
    have hq : vop .quo .f64 (some x) (some y) = some (Ieee.double.write (.number (neg Ieee.double x ^^ neg Ieee.double y) (2 * (m <<< more / n) + (m <<< more % n != 0).toNat) (i - j - more - 1))) := by
      show Ieee.double.div x y = _
      unfold Ieee.Format.div
      rw [ea, eb]
      show (Ieee.Datum.quotient 54 _ _).map _ = _
      simp only [Ieee.Datum.quotient, if_neg hn, hmore]
      rfl
    refine ⟨_, hq, ?_⟩
    rw [(rung_write_number _ _ _ _).1]
    refine rung_le Ieee.double ?_
    obtain ⟨B, hB⟩ : ∃ B, B = e + 51 := ⟨_, rfl⟩
    obtain ⟨d, rfl⟩ : ∃ d, e = d + 1 := ⟨e - 1, by omega⟩
    rw [val_double (A := B) (by omega), hl]
    have lm : 2 ^ m.log2 ≤ m := Nat.log2_self_le hm
    have ln : n < 2 ^ (n.log2 + 1) := Nat.lt_log2_self
    -- the sizes in binary digits
    have k1 : (m.log2 : Int) + (i - -1074) ≤ A := by
      have h1 : 2 ^ (m.log2 + (i - -1074).toNat) ≤ 2 ^ A := by
        rw [Nat.pow_add]; exact Nat.le_trans (Nat.mul_le_mul_right _ lm) wa
      have := (Nat.pow_le_pow_iff_right (a := 2) (by omega)).1 h1
      clear wa wb va vb; omega
    have k2 : (S : Int) < n.log2 + 1 + (j - -1074) := by
      have h1 : 2 ^ S < 2 ^ (n.log2 + 1 + (j - -1074).toNat) := by
        rw [Nat.pow_add]; exact Nat.lt_of_le_of_lt wb (Nat.mul_lt_mul_of_pos_right ln (Nat.two_pow_pos _))
      have := (Nat.pow_lt_pow_iff_right (a := 2) (by omega)).1 h1
      clear wa wb va vb; omega
    obtain ⟨k, hk⟩ : ∃ k : Nat, (k : Int) = A - S - (i - j) + more := ⟨(A - S - (i - j) + more : Int).toNat, by clear wa wb va vb; omega⟩
    have hD : m <<< more ≤ 2 ^ k * n := by
      rw [Nat.shiftLeft_eq]
      have h1 : m * 2 ^ (i - -1074).toNat * 2 ^ S ≤ 2 ^ A * (n * 2 ^ (j - -1074).toNat) := Nat.mul_le_mul wa wb
      rw [Nat.mul_assoc, ← Nat.pow_add, ← Nat.mul_assoc, Nat.mul_comm (2 ^ A) n, Nat.mul_assoc, ← Nat.pow_add] at h1
      have := (scale (e3 := more) (e4 := k) (by clear wa wb va vb h1; omega)).1 h1
      rwa [Nat.mul_comm (2 ^ k)]
    have hZ := sticky hD
    refine Nat.le_trans (Nat.mul_le_mul_right _ hZ) ?_
    rw [← Nat.pow_add, Nat.mul_comm 2 (2 ^ k), ← Nat.pow_succ, ← Nat.pow_add]
    exact Nat.pow_le_pow_right (by omega) (by clear wa wb va vb hZ hD; omega)

end Go.Proofs.Yteckjpdfecgljaa
