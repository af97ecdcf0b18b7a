/- Plain facts: how small products are. -/
import Derived.Test.YtljpggeogiabgaaMathF
import Derived.Test.YtljpggeogiabgaaMathU
namespace Go.Proofs.Ytljpggeogiabgaa
open Go.RowKit Go.Flo
set_option linter.unusedSimpArgs false
set_option linter.unusedVariables false

theorem mul_fin {x y : V} {r : Nat} (h : mul x y = some r) (hr : rung Ieee.single r < Ieee.single.infRung) : ∃ a b, x = some a ∧ y = some b ∧ rung Ieee.single a < Ieee.single.infRung ∧ rung Ieee.single b < Ieee.single.infRung := by
  cases x with
  | none => cases h
  | some a =>
    cases y with
    | none => cases h
    | some b =>
      have h' : Ieee.single.mul a b = some r := h
      unfold Ieee.Format.mul at h'
      have notInf : ∀ s, Ieee.single.write (.infinity s) = r → False := fun s e => by
        have := (rung_write_inf Ieee.single s).1
        rw [e] at this; omega
      refine ⟨a, b, rfl, rfl, ?_, ?_⟩
      · rcases Nat.lt_or_ge (rung Ieee.single a) Ieee.single.infRung with g | g
        · exact g
        · exfalso
          rcases Nat.eq_or_lt_of_le g with g | g
          · rw [read_inf good_single g.symm] at h'
            cases hb : Ieee.single.read b with
            | nan s t => rw [hb] at h'; cases h'
            | infinity s =>
              rw [hb] at h'
              simp only [Ieee.Datum.product, Option.map_some, Option.some.injEq] at h'
              exact notInf _ h'
            | number s m i =>
              rw [hb] at h'
              simp only [Ieee.Datum.product] at h'
              split at h'
              · cases h'
              · simp only [Option.map_some, Option.some.injEq] at h'; exact notInf _ h'
          · rw [read_nan good_single g] at h'
            cases hb : Ieee.single.read b <;> rw [hb] at h' <;> cases h'
      · rcases Nat.lt_or_ge (rung Ieee.single b) Ieee.single.infRung with g | g
        · exact g
        · exfalso
          rcases Nat.eq_or_lt_of_le g with g | g
          · rw [read_inf good_single g.symm] at h'
            cases hb : Ieee.single.read a with
            | nan s t => rw [hb] at h'; cases h'
            | infinity s =>
              rw [hb] at h'
              simp only [Ieee.Datum.product, Option.map_some, Option.some.injEq] at h'
              exact notInf _ h'
            | number s m i =>
              rw [hb] at h'
              simp only [Ieee.Datum.product] at h'
              split at h'
              · cases h'
              · simp only [Option.map_some, Option.some.injEq] at h'; exact notInf _ h'
          · rw [read_nan good_single g] at h'
            cases hb : Ieee.single.read a <;> rw [hb] at h' <;> cases h'
theorem abd_mul {s1 s2 s r : Nat} {x y : V} (h1 : abd s1 x) (h2 : abd s2 y) (l1 : 0 < s1) (l2 : 0 < s2) (he : s1 + s2 = s + 127) (l : 0 < s) (hs : s ≤ 254) (h : mul x y = some r) (hr : rung Ieee.single r < Ieee.single.infRung) : abd s (some r) := by
  obtain ⟨a, rfl, ha, ra⟩ := h1
  obtain ⟨b, rfl, hb, rb⟩ := h2
  obtain ⟨m, i, ea, pa, va⟩ := read_number Ieee.single ra
  obtain ⟨n, j, eb, pb, vb⟩ := read_number Ieee.single rb
  obtain ⟨A1, hA1⟩ : ∃ A1, A1 = s1 + 22 := ⟨_, rfl⟩
  obtain ⟨A2, hA2⟩ : ∃ A2, A2 = s2 + 22 := ⟨_, rfl⟩
  obtain ⟨A, hA⟩ : ∃ A, A = s + 22 := ⟨_, rfl⟩
  have wa := val_lbd l1 hA1 ha
  have wb := val_lbd l2 hA2 hb
  rw [← va] at wa; rw [← vb] at wb
  have h' : Ieee.single.mul a b = some r := h
  unfold Ieee.Format.mul at h'
  rw [ea, eb] at h'
  simp only [Ieee.Datum.product, Option.map_some, Option.some.injEq] at h'
  refine ⟨r, rfl, ?_, hr⟩
  rw [← h', (rung_write_number _ _ _ _).1]
  have hi : Ieee.single.binade = 8388608 := by decide
  refine rung_ge Ieee.single (by rw [hi, inf32]; omega) ?_
  obtain ⟨d, rfl⟩ : ∃ d, s = d + 1 := ⟨s - 1, by omega⟩
  rw [val_single (A := A) (by omega)]
  have hl : Ieee.single.leastPlace = -149 := by decide
  rw [hl] at wa wb pa pb ⊢
  have hm : 1 * 2 ^ (A1 + A2) ≤ m * n * 2 ^ ((i - -149).toNat + (j - -149).toNat) := by
    rw [Nat.pow_add, Nat.one_mul, Nat.pow_add]
    calc 2 ^ A1 * 2 ^ A2 ≤ (m * 2 ^ (i - -149).toNat) * (n * 2 ^ (j - -149).toNat) := Nat.mul_le_mul wa wb
      _ = m * n * (2 ^ (i - -149).toNat * 2 ^ (j - -149).toNat) := by
          rw [Nat.mul_assoc, Nat.mul_assoc, Nat.mul_left_comm n]
  have := (scale (e3 := A + (-149 - (i + j)).toNat) (e4 := (i + j - -149).toNat) (by clear hm wa wb va vb; omega)).1 hm
  rw [Nat.one_mul, Nat.pow_add] at this
  exact this
end Go.Proofs.Ytljpggeogiabgaa
