/- Plain facts: what is not finite stays so; a half is a product. -/
import Derived.Test.YteckjpdfecgljaaMathP
namespace Go.Proofs.Yteckjpdfecgljaa
open Go.RowKit Go.Flo
set_option linter.unusedSimpArgs false

theorem fin_rung {a : Nat} (h : finV (some a) = true) : rung Ieee.single a < Ieee.single.infRung := by
  obtain ⟨b, hb, hr⟩ := finV_some h
  cases hb; exact hr
theorem read_notfin {a : Nat} (h : ¬ rung Ieee.single a < Ieee.single.infRung) : (∃ s, Ieee.single.read a = .infinity s) ∨ ∃ s t, Ieee.single.read a = .nan s t := by
  rcases Nat.lt_or_ge Ieee.single.infRung (rung Ieee.single a) with g | g
  · exact .inr ⟨_, _, read_nan good_single g⟩
  · exact .inl ⟨_, read_inf good_single (w := a) (by omega)⟩
theorem inf_notfin (s : Bool) : finV (some (Ieee.single.write (.infinity s))) = false := by
  cases h : finV (some (Ieee.single.write (.infinity s)))
  · rfl
  · have := fin_rung h
    rw [(rung_write_inf Ieee.single s).1] at this; omega
theorem sum_notfin {d e : Ieee.Datum} (h : (∃ s, d = .infinity s) ∨ ∃ s t, d = .nan s t) : finV ((d.sum e).map Ieee.single.write) = false := by
  rcases h with ⟨s, rfl⟩ | ⟨s, t, rfl⟩
  · cases e with
    | nan => exact fin_none
    | infinity t =>
      simp only [Ieee.Datum.sum]
      split
      · exact inf_notfin _
      · exact fin_none
    | number => exact inf_notfin _
  · cases e <;> exact fin_none
theorem sum_notfin' {d e : Ieee.Datum} (h : (∃ s, e = .infinity s) ∨ ∃ s t, e = .nan s t) : finV ((d.sum e).map Ieee.single.write) = false := by
  rcases h with ⟨s, rfl⟩ | ⟨s, t, rfl⟩
  · cases d with
    | nan => exact fin_none
    | infinity t =>
      simp only [Ieee.Datum.sum]
      split
      · exact inf_notfin _
      · exact fin_none
    | number => exact inf_notfin _
  · cases d <;> exact fin_none
theorem prod_notfin {d e : Ieee.Datum} (h : (∃ s, d = .infinity s) ∨ ∃ s t, d = .nan s t) : finV ((d.product e).map Ieee.single.write) = false := by
  rcases h with ⟨s, rfl⟩ | ⟨s, t, rfl⟩
  · cases e with
    | nan => exact fin_none
    | infinity t => exact inf_notfin _
    | number t n j =>
      simp only [Ieee.Datum.product]
      split
      · exact fin_none
      · exact inf_notfin _
  · cases e <;> exact fin_none
theorem prod_notfin' {d e : Ieee.Datum} (h : (∃ s, e = .infinity s) ∨ ∃ s t, e = .nan s t) : finV ((d.product e).map Ieee.single.write) = false := by
  rcases h with ⟨s, rfl⟩ | ⟨s, t, rfl⟩
  · cases d with
    | nan => exact fin_none
    | infinity t => exact inf_notfin _
    | number t n j =>
      simp only [Ieee.Datum.product]
      split
      · exact fin_none
      · exact inf_notfin _
  · cases d <;> exact fin_none
theorem notfin_rung {a : Nat} (h : finV (some a) = false) : ¬ rung Ieee.single a < Ieee.single.infRung := fun g => by
  rw [finV_num g] at h; cases h
theorem add_notfin {x y : V} (h : finV x = false ∨ finV y = false) : finV (vop .add .f32 x y) = false := by
  cases x with
  | none => exact fin_none
  | some a => cases y with
    | none => exact fin_none
    | some b =>
      show finV (Ieee.single.add a b) = false
      unfold Ieee.Format.add
      rcases h with h | h
      · exact sum_notfin (read_notfin (notfin_rung h))
      · exact sum_notfin' (read_notfin (notfin_rung h))
theorem sub_notfin {x y : V} (h : finV x = false ∨ finV y = false) : finV (vop .sub .f32 x y) = false := by
  cases x with
  | none => exact fin_none
  | some a => cases y with
    | none => exact fin_none
    | some b =>
      show finV (Ieee.single.sub a b) = false
      unfold Ieee.Format.sub
      rcases h with h | h
      · exact sum_notfin (read_notfin (notfin_rung h))
      · refine sum_notfin' ?_
        rcases read_notfin (notfin_rung h) with ⟨s, e⟩ | ⟨s, t, e⟩
        · rw [e]; exact .inl ⟨_, rfl⟩
        · rw [e]; exact .inr ⟨_, _, rfl⟩
theorem mul_notfin {x y : V} (h : finV x = false ∨ finV y = false) : finV (vop .mul .f32 x y) = false := by
  cases x with
  | none => exact fin_none
  | some a => cases y with
    | none => exact fin_none
    | some b =>
      show finV (Ieee.single.mul a b) = false
      unfold Ieee.Format.mul
      rcases h with h | h
      · exact prod_notfin (read_notfin (notfin_rung h))
      · exact prod_notfin' (read_notfin (notfin_rung h))
theorem plain_fin {v : V} (h : finV v = false) : plainV v = false := by
  cases hp : plainV v
  · rfl
  · have hb : bd 147 v := by
      cases v with
      | none => unfold plainV at hp; rw [ge_none] at hp; cases hp
      | some a =>
        rcases cases32 a with hn | ⟨hn, hr⟩
        · exfalso
          have : FloatKind.f32.format.infRung < rung FloatKind.f32.format a := cv_eq_none hn
          unfold plainV ge at hp
          have e : vord FloatKind.f32.format (some a) (c32 3379831808) = none := by
            rw [show c32 3379831808 = some 3379831808 by kernel_rfl]
            exact order_nan_left (good .f32) this
          rw [e] at hp; cases hp
        · have := bd_plain (b := a) (by rw [hn]; exact hp)
          rw [hn] at this; exact this
    obtain ⟨b, rfl, hr⟩ := hb
    rw [finV_num (fin_of_bd (by omega) hr)] at h; cases h

theorem neg_rung (b : Nat) : rung FloatKind.f32.format (Op.negFloat .f32 b) = rung FloatKind.f32.format b := by
  unfold rung Op.negFloat
  have hs : FloatKind.f32.format.signWeight = 2 ^ 31 := by decide
  have he : FloatKind.f32.format.exponentBits + FloatKind.f32.format.fractionBits = 31 := by decide
  rw [hs, he, Nat.xor_mod_two_pow]
  simp
theorem bd_neg {e : Nat} {x : V} (h : bd e x) : bd e (x.map (Op.negFloat .f32)) := by
  obtain ⟨b, rfl, hb⟩ := h
  exact ⟨_, rfl, by rw [show rung Ieee.single (Op.negFloat .f32 b) = rung Ieee.single b from neg_rung b]; exact hb⟩
end Go.Proofs.Yteckjpdfecgljaa
