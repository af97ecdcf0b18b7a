/- Plain facts: a product with 1 is, in sums and differences, the number itself. -/
import Derived.Test.YtljpggeogiabgaaMathR
namespace Go.Proofs.Ytljpggeogiabgaa
open Go.RowKit Go.Flo
set_option linter.unusedSimpArgs false
set_option linter.unusedVariables false

theorem read_congr {f : Ieee.Format} {a b : Nat} (hr : rung f a = rung f b) (hn : neg f a = neg f b) : f.read a = f.read b := by
  unfold rung at hr
  unfold neg at hn
  unfold Ieee.Format.read
  simp only [hr, hn]
theorem mul_one (a : Nat) : (∃ w, Ieee.single.mul a 1065353216 = some w ∧ Ieee.single.read w = Ieee.single.read a) ∨ (Ieee.single.mul a 1065353216 = none ∧ ∃ s t, Ieee.single.read a = .nan s t) := by
  have r1 : Ieee.single.read 1065353216 = .number false 8388608 (-23) := by decide
  unfold Ieee.Format.mul
  rw [r1]
  rcases Nat.lt_trichotomy (rung Ieee.single a) Ieee.single.infRung with h | h | h
  · obtain ⟨m, i, hr, hp, hv⟩ := read_number Ieee.single h
    refine .inl ⟨Ieee.single.write (.number (neg Ieee.single a) (m * 8388608) (i + -23)), ?_, ?_⟩
    · rw [hr]
      simp only [Ieee.Datum.product, Bool.xor_false, Option.map_some]
    · have hR : rungOf Ieee.single (m * 8388608) (i + -23) = rung Ieee.single a := by
        rw [rungOf_same Ieee.single (m := m) (n := m * 8388608) (i := i) (d := 23) rfl (by omega)]
        have hz : (Ieee.single.leastPlace - i).toNat = 0 := by omega
        exact Nat.le_antisymm (rung_le _ (by rw [hv, hz]; simp)) (rung_ge _ (Nat.le_of_lt h) (by rw [hv, hz]; simp))
      obtain ⟨g1, g2⟩ := rung_write_number Ieee.single (neg Ieee.single a) (m * 8388608) (i + -23)
      exact read_congr (g1.trans hR) g2
  · have hr := read_inf good_single h
    refine .inl ⟨Ieee.single.write (.infinity (neg Ieee.single a)), ?_, ?_⟩
    · rw [hr]; simp [Ieee.Datum.product]
    · obtain ⟨g1, g2⟩ := rung_write_inf Ieee.single (neg Ieee.single a)
      exact read_congr (g1.trans h.symm) g2
  · have hr := read_nan good_single h
    exact .inr ⟨by rw [hr]; rfl, _, _, hr⟩
theorem sum_nanL (s : Bool) (t : Nat) (d : Ieee.Datum) : Ieee.Datum.sum (.nan s t) d = none := by cases d <;> rfl
theorem sum_nanR (s : Bool) (t : Nat) (d : Ieee.Datum) : Ieee.Datum.sum d (.nan s t) = none := by cases d <;> rfl
theorem one_eq : kcv .f32 1065353216 = some 1065353216 := by kernel_rfl
/-- the left side -/
theorem one_left {op : BinOp} (h : op = .add ∨ op = .sub) (x y : V) : vop op .f32 (vop .mul .f32 x (kcv .f32 1065353216)) y = vop op .f32 x y := by
  rw [one_eq]
  cases x with
  | none => rfl
  | some a =>
    show vop op .f32 (Ieee.single.mul a 1065353216) y = _
    rcases mul_one a with ⟨w, e, hr⟩ | ⟨e, s, t, hr⟩
    · rw [e]
      cases y with
      | none => rcases h with rfl | rfl <;> rfl
      | some b =>
        rcases h with rfl | rfl
        · show Ieee.single.add w b = Ieee.single.add a b
          unfold Ieee.Format.add; rw [hr]
        · show Ieee.single.sub w b = Ieee.single.sub a b
          unfold Ieee.Format.sub; rw [hr]
    · rw [e]
      cases y with
      | none => rcases h with rfl | rfl <;> rfl
      | some b =>
        rcases h with rfl | rfl
        · show none = Ieee.single.add a b
          unfold Ieee.Format.add; rw [hr, sum_nanL]; rfl
        · show none = Ieee.single.sub a b
          unfold Ieee.Format.sub; rw [hr, sum_nanL]; rfl
theorem one_right {op : BinOp} (h : op = .add ∨ op = .sub) (x y : V) : vop op .f32 y (vop .mul .f32 x (kcv .f32 1065353216)) = vop op .f32 y x := by
  rw [one_eq]
  cases x with
  | none => rfl
  | some a =>
    show vop op .f32 y (Ieee.single.mul a 1065353216) = _
    rcases mul_one a with ⟨w, e, hr⟩ | ⟨e, s, t, hr⟩
    · rw [e]
      cases y with
      | none => rcases h with rfl | rfl <;> rfl
      | some b =>
        rcases h with rfl | rfl
        · show Ieee.single.add b w = Ieee.single.add b a
          unfold Ieee.Format.add; rw [hr]
        · show Ieee.single.sub b w = Ieee.single.sub b a
          unfold Ieee.Format.sub; rw [hr]
    · rw [e]
      cases y with
      | none => rcases h with rfl | rfl <;> rfl
      | some b =>
        rcases h with rfl | rfl
        · show none = Ieee.single.add b a
          unfold Ieee.Format.add; rw [hr, sum_nanR]; rfl
        · show none = Ieee.single.sub b a
          unfold Ieee.Format.sub; rw [hr]
          cases Ieee.single.read b <;> rfl
end Go.Proofs.Ytljpggeogiabgaa
