/- Plain facts: a number divided by 2 is its product with a half. -/
import Derived.Test.YteckjpdfecgljaaMathQ
namespace Go.Proofs.Yteckjpdfecgljaa
open Go.RowKit Go.Flo
set_option linter.unusedSimpArgs false

theorem cut_full (n drop : Nat) : Ieee.Toward.even.cut false n drop = n / 2 ^ drop + (decide (2 ^ drop < 2 * (n % 2 ^ drop)) || (2 ^ drop == 2 * (n % 2 ^ drop) && n / 2 ^ drop % 2 == 1)).toNat := by
  unfold Ieee.Toward.cut
  simp only [Nat.one_shiftLeft]
  rcases Nat.le_total drop (n.log2 + 2) with h | h
  · rw [Nat.min_eq_left h]
  · rw [Nat.min_eq_right h]
    have hn : n < 2 ^ (n.log2 + 1) := Nat.lt_log2_self
    have h1 : 2 * n < 2 ^ (n.log2 + 2) := by rw [Nat.pow_succ]; omega
    have h2 : 2 ^ (n.log2 + 2) ≤ 2 ^ drop := Nat.pow_le_pow_right (by omega) h
    generalize 2 ^ (n.log2 + 2) = g at *
    generalize 2 ^ drop = G at *
    rw [Nat.div_eq_of_lt (show n < g by omega), Nat.mod_eq_of_lt (show n < g by omega), Nat.div_eq_of_lt (show n < G by omega), Nat.mod_eq_of_lt (show n < G by omega)]
    have e1 : decide (g < 2 * n) = false := decide_eq_false (by omega)
    have e2 : decide (G < 2 * n) = false := decide_eq_false (by omega)
    rw [e1, e2]; simp
theorem cut_scale (m D d : Nat) : Ieee.Toward.even.cut false (m * 2 ^ d) (D + d) = Ieee.Toward.even.cut false m D := by
  rw [cut_full, cut_full]
  have hp := Nat.two_pow_pos d
  rw [Nat.pow_add, Nat.mul_div_mul_right _ _ hp, Nat.mul_mod_mul_right]
  have e1 : (2 ^ D * 2 ^ d < 2 * (m % 2 ^ D * 2 ^ d)) ↔ (2 ^ D < 2 * (m % 2 ^ D)) := by
    rw [← Nat.mul_assoc]
    exact Nat.mul_lt_mul_right hp
  have e2 : (2 ^ D * 2 ^ d = 2 * (m % 2 ^ D * 2 ^ d)) ↔ (2 ^ D = 2 * (m % 2 ^ D)) := by
    rw [← Nat.mul_assoc]
    exact ⟨fun h => Nat.eq_of_mul_eq_mul_right hp h, fun h => congrArg (· * 2 ^ d) h⟩
  have e3 : decide (2 ^ D * 2 ^ d < 2 * (m % 2 ^ D * 2 ^ d)) = decide (2 ^ D < 2 * (m % 2 ^ D)) := decide_eq_decide.2 e1
  have e4 : (2 ^ D * 2 ^ d == 2 * (m % 2 ^ D * 2 ^ d)) = (2 ^ D == 2 * (m % 2 ^ D)) := by
    rw [Bool.eq_iff_iff]; simp only [beq_iff_eq]; exact e2
  rw [e3, e4]
theorem rungOf_same (f : Ieee.Format) {m n : Nat} {i j : Int} {d : Nat} (hm : n = m * 2 ^ d) (hj : j = i - d) : rungOf f n j = rungOf f m i := by
  have hp := Nat.two_pow_pos d
  by_cases h0 : m = 0
  · subst h0
    have : n = 0 := by rw [hm]; simp
    subst this
    unfold rungOf; rw [if_pos rfl, if_pos rfl]
  · have hn : n ≠ 0 := by
      rw [hm]; exact Nat.mul_ne_zero h0 (by omega)
    have hlog : n.log2 = m.log2 + d := by
      rw [Nat.log2_eq_iff hn, hm]
      have l1 : 2 ^ m.log2 ≤ m := Nat.log2_self_le h0
      have l2 : m < 2 ^ (m.log2 + 1) := Nat.lt_log2_self
      refine ⟨?_, ?_⟩
      · rw [Nat.pow_add]; exact Nat.mul_le_mul_right _ l1
      · rw [show m.log2 + d + 1 = (m.log2 + 1) + d by omega, Nat.pow_add]; exact Nat.mul_lt_mul_of_pos_right l2 hp
    unfold rungOf
    rw [if_neg h0, if_neg hn]
    have hlast : max (j + n.log2 - f.fractionBits) f.leastPlace = max (i + m.log2 - f.fractionBits) f.leastPlace := by
      rw [hlog, hj]; congr 1; omega
    simp only [hlast]
    generalize max (i + m.log2 - f.fractionBits) f.leastPlace = last
    have hcut : Ieee.Toward.even.cut false (n <<< (j - last).toNat) (last - j).toNat = Ieee.Toward.even.cut false (m <<< (i - last).toNat) (last - i).toNat := by
      rw [Nat.shiftLeft_eq, Nat.shiftLeft_eq, hm, hj]
      rcases Int.lt_or_le (i - d) last with h | h
      · rcases Int.lt_or_le i last with g | g
        · have a1 : (i - d - last).toNat = 0 := by omega
          have a2 : (i - last).toNat = 0 := by omega
          have a3 : (last - (i - d)).toNat = (last - i).toNat + d := by omega
          rw [a1, a2, a3, Nat.pow_zero, Nat.mul_one, Nat.mul_one]
          exact cut_scale _ _ _
        · have a1 : (i - d - last).toNat = 0 := by omega
          have a2 : (last - i).toNat = 0 := by omega
          obtain ⟨c, hc⟩ : ∃ c, c = (last - (i - d)).toNat := ⟨_, rfl⟩
          have a3 : d = (i - last).toNat + c := by omega
          rw [a1, a2, ← hc, Nat.pow_zero, Nat.mul_one]
          have := cut_scale (m * 2 ^ (i - last).toNat) 0 c
          rw [Nat.zero_add, Nat.mul_assoc, ← Nat.pow_add, ← a3] at this
          exact this
      · have a1 : (i - last).toNat = d + (i - d - last).toNat := by omega
        have a2 : (last - i).toNat = 0 := by omega
        have a3 : (last - (i - d)).toNat = 0 := by omega
        rw [a1, a2, a3, Nat.pow_add, Nat.mul_assoc]
    rw [hcut]
theorem read_mag {a : Nat} {s : Bool} {m : Nat} {i : Int} (h : Ieee.single.read a = .number s m i) : m < 2 ^ 24 := by
  have hb : Ieee.single.binade = 8388608 := by decide
  unfold Ieee.Format.read at h
  simp only [] at h
  split at h
  · cases h; omega
  · split at h
    · cases h
      have := Nat.mod_lt (a % Ieee.single.signWeight) (show 0 < Ieee.single.binade by omega)
      omega
    · split at h <;> cases h
theorem write_same {s : Bool} {m n : Nat} {i j : Int} (h : rungOf Ieee.single m i = rungOf Ieee.single n j) : Ieee.single.write (.number s m i) = Ieee.single.write (.number s n j) := by
  show Ieee.single.nearest s m i = Ieee.single.nearest s n j
  rw [nearest_rung, nearest_rung, h]
theorem half_eq (x : V) : vop .quo .f32 x (kcv .f32 1073741824) = vop .mul .f32 x (kcv .f32 1056964608) := by
  have c1 : kcv .f32 1073741824 = some 1073741824 := by kernel_rfl
  have c2 : kcv .f32 1056964608 = some 1056964608 := by kernel_rfl
  rw [c1, c2]
  cases x with
  | none => rfl
  | some a =>
    show Ieee.single.div a 1073741824 = Ieee.single.mul a 1056964608
    unfold Ieee.Format.div Ieee.Format.mul
    have r1 : Ieee.single.read 1073741824 = .number false 8388608 (-22) := by decide
    have r2 : Ieee.single.read 1056964608 = .number false 8388608 (-24) := by decide
    rw [r1, r2]
    show (Ieee.Datum.quotient 25 _ _).map _ = _
    cases hr : Ieee.single.read a with
    | nan s t => rfl
    | infinity s => rfl
    | number s m i =>
      have hm := read_mag hr
      simp only [Ieee.Datum.quotient, Ieee.Datum.product]
      rw [if_neg (by omega)]
      simp only [Option.map_some, Option.some.injEq, Bool.xor_false]
      refine write_same ?_
      have hl : m.log2 ≤ 23 := by
        rcases Nat.eq_zero_or_pos m with h | h
        · subst h; decide
        · have h1 := Nat.log2_self_le (n := m) (by omega)
          have h2 : 2 ^ m.log2 < 2 ^ 24 := Nat.lt_of_le_of_lt h1 hm
          have := (Nat.pow_lt_pow_iff_right (a := 2) (by omega)).1 h2
          omega
      have hlog : (8388608 : Nat).log2 = 23 := by decide
      obtain ⟨more, hmore⟩ : ∃ more, more = 25 + (8388608 : Nat).log2 - m.log2 := ⟨_, rfl⟩
      rw [← hmore]
      obtain ⟨c, hc⟩ : ∃ c, more = c + 23 := ⟨more - 23, by omega⟩
      have hd : m <<< more = m * 2 ^ c * 8388608 := by
        rw [Nat.shiftLeft_eq, hc, Nat.pow_add, ← Nat.mul_assoc]
      rw [hd, Nat.mul_div_cancel _ (by omega), Nat.mul_mod_left]
      have e0 : ((0 : Nat) != 0).toNat = 0 := rfl
      rw [e0, Nat.add_zero]
      rw [rungOf_same Ieee.single (m := m) (i := i - 1) (d := c + 1) (by rw [Nat.pow_succ, Nat.mul_comm 2, Nat.mul_assoc]) (by omega)]
      rw [rungOf_same Ieee.single (m := m) (n := m * 8388608) (i := i - 1) (d := 23) rfl (by omega)]
end Go.Proofs.Yteckjpdfecgljaa
