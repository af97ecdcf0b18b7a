/- Plain facts: the sine that is reckoned, and that it can be made narrow. -/
import Derived.Test.YteckjpdfecgljaaMathO
namespace Go.Proofs.Yteckjpdfecgljaa
open Go.RowKit Go.Flo
set_option linter.unusedSimpArgs false

def gV (x : V) : V := if (vord FloatKind.f64.format (rteV (wide x)) (kcv .f64 0) == some .eq) = true then wide x else vop .sub .f64 (wide x) (rteV (wide x))
def stepS (y : V) (k : Nat) (s : V) : V := vop .sub .f64 (kcv .f64 4607182418800017408) (vop .mul .f64 (vop .quo .f64 y (kcv .f64 k)) s)
def sineS (y : V) : V := stepS y 4618441417868443648 (stepS y 4626322717216342016 (stepS y 4631107791820423168 (stepS y 4634766966517661696 (stepS y 4637440978796412928 (stepS y 4639692778610098176 (stepS y 4641592734702895104 (stepS y 4643492690795692032 (stepS y 4644724143818801152 (stepS y 4646096334330265600 (stepS y 4647609262330085376 (stepS y 4648488871632306176 (stepS y 4649386073120571392 (stepS y 4650353643353014272 (kcv .f64 4607182418800017408))))))))))))))
def sineX (g : V) : V := vop .mul .f64 (kcv .f64 4618760256179416344) g
def sineW (g : V) : V := vop .mul .f64 (sineX g) (sineS (vop .mul .f64 (sineX g) (sineX g)))
def sineV (x : V) : V := if finV x = true then narrow (sineW (gV x)) else none

theorem abd_const {b s : Nat} (h : s * Ieee.double.binade ≤ rung Ieee.double b) (hi : rung Ieee.double b < Ieee.double.infRung) : abd64 s (kcv .f64 b) :=
  ⟨b, cv_some (f := Ieee.double) (Nat.le_of_lt hi), h, hi⟩
theorem bd_const {b e : Nat} (h : rung Ieee.double b ≤ e * Ieee.double.binade) (he : e ≤ 2046) : bd64 e (kcv .f64 b) :=
  ⟨b, cv_some (f := Ieee.double) (Nat.le_of_lt (fin_of_bd64 he h)), h⟩
theorem step_bd {y s : V} {k c e1 e2 e3 e : Nat} (hy : bd64 1029 y) (hk : abd64 c (kcv .f64 k)) (hs : bd64 e1 s) (l1 : 1000 ≤ e1 ∧ e1 ≤ 1500) (l2 : 1000 ≤ c ∧ c ≤ 1100) (h2 : 2052 = e2 + c) (h3 : e2 + e1 = e3 + 1023) (he : 1023 ≤ e ∧ e3 ≤ e ∧ e ≤ 1500) : bd64 (e + 1) (stepS y k s) := by
  have a1 : bd64 e2 (vop .quo .f64 y (kcv .f64 k)) := bd_div64 hy hk (by omega) (by omega) (by omega) (by omega)
  have a2 : bd64 e3 (vop .mul .f64 (vop .quo .f64 y (kcv .f64 k)) s) := bd_mul64 a1 hs (by omega) (by omega) (by omega) (by omega)
  have a3 : bd64 1023 (kcv .f64 4607182418800017408) := bd_const (by decide) (by decide)
  exact bd_sub64 (bd_mono64 a3 he.1) (bd_mono64 a2 he.2.1) (by omega)
theorem sine_bd {g : V} (h : bd64 1023 g) : bd64 1039 (sineW g) := by
  have hX : bd64 1026 (sineX g) := bd_mul64 (e1 := 1026) (bd_const (by decide) (by decide)) h (by omega) (by omega) (by omega) (by omega)
  have hy : bd64 1029 (vop .mul .f64 (sineX g) (sineX g)) := bd_mul64 hX hX (by omega) (by omega) (by omega) (by omega)
  have s0 : bd64 1023 (kcv .f64 4607182418800017408) := bd_const (by decide) (by decide)
  have s1 := step_bd (k := 4650353643353014272) (c := 1032) (e2 := 1020) (e3 := 1020) (e := 1023) hy (abd_const (by decide) (by decide)) s0 (by omega) (by omega) (by omega) (by omega) (by omega)
  have s2 := step_bd (k := 4649386073120571392) (c := 1032) (e2 := 1020) (e3 := 1021) (e := 1023) hy (abd_const (by decide) (by decide)) s1 (by omega) (by omega) (by omega) (by omega) (by omega)
  have s3 := step_bd (k := 4648488871632306176) (c := 1032) (e2 := 1020) (e3 := 1021) (e := 1023) hy (abd_const (by decide) (by decide)) s2 (by omega) (by omega) (by omega) (by omega) (by omega)
  have s4 := step_bd (k := 4647609262330085376) (c := 1031) (e2 := 1021) (e3 := 1022) (e := 1023) hy (abd_const (by decide) (by decide)) s3 (by omega) (by omega) (by omega) (by omega) (by omega)
  have s5 := step_bd (k := 4646096334330265600) (c := 1031) (e2 := 1021) (e3 := 1022) (e := 1023) hy (abd_const (by decide) (by decide)) s4 (by omega) (by omega) (by omega) (by omega) (by omega)
  have s6 := step_bd (k := 4644724143818801152) (c := 1031) (e2 := 1021) (e3 := 1022) (e := 1023) hy (abd_const (by decide) (by decide)) s5 (by omega) (by omega) (by omega) (by omega) (by omega)
  have s7 := step_bd (k := 4643492690795692032) (c := 1031) (e2 := 1021) (e3 := 1022) (e := 1023) hy (abd_const (by decide) (by decide)) s6 (by omega) (by omega) (by omega) (by omega) (by omega)
  have s8 := step_bd (k := 4641592734702895104) (c := 1030) (e2 := 1022) (e3 := 1023) (e := 1023) hy (abd_const (by decide) (by decide)) s7 (by omega) (by omega) (by omega) (by omega) (by omega)
  have s9 := step_bd (k := 4639692778610098176) (c := 1030) (e2 := 1022) (e3 := 1023) (e := 1023) hy (abd_const (by decide) (by decide)) s8 (by omega) (by omega) (by omega) (by omega) (by omega)
  have s10 := step_bd (k := 4637440978796412928) (c := 1029) (e2 := 1023) (e3 := 1024) (e := 1024) hy (abd_const (by decide) (by decide)) s9 (by omega) (by omega) (by omega) (by omega) (by omega)
  have s11 := step_bd (k := 4634766966517661696) (c := 1029) (e2 := 1023) (e3 := 1025) (e := 1025) hy (abd_const (by decide) (by decide)) s10 (by omega) (by omega) (by omega) (by omega) (by omega)
  have s12 := step_bd (k := 4631107791820423168) (c := 1028) (e2 := 1024) (e3 := 1027) (e := 1027) hy (abd_const (by decide) (by decide)) s11 (by omega) (by omega) (by omega) (by omega) (by omega)
  have s13 := step_bd (k := 4626322717216342016) (c := 1027) (e2 := 1025) (e3 := 1030) (e := 1030) hy (abd_const (by decide) (by decide)) s12 (by omega) (by omega) (by omega) (by omega) (by omega)
  have s14 := step_bd (k := 4618441417868443648) (c := 1025) (e2 := 1027) (e3 := 1035) (e := 1035) hy (abd_const (by decide) (by decide)) s13 (by omega) (by omega) (by omega) (by omega) (by omega)
  exact bd_mul64 hX s14 (by omega) (by omega) (by omega) (by omega)
theorem sine_ok {g : V} (h : bd64 1023 g) : NarrowOk (sineW g) := by
  obtain ⟨b, hb, hr⟩ := sine_bd h
  intro c hc
  rw [hb] at hc; cases hc
  exact narrow_ok rfl rfl (Nat.le_trans hr (Nat.mul_le_mul_right _ (by decide)))
theorem gV_bd {x : V} (h : finV x = true) : bd64 1023 (gV x) := by
  obtain ⟨b, rfl, hb⟩ := finV_some h
  obtain ⟨r, m, p, hr, _⟩ := wide_some hb
  have hs := wide_small (B := 277) rfl hb hr
  unfold gV
  rw [hr]
  split
  · rename_i hz
    refine rte_zero hs ?_
    obtain ⟨_, f2, _, _⟩ := rte_facts hs rfl
    have hc : kcv .f64 0 = some 0 := cv_some (f := Ieee.double) (by decide)
    have ho : vord FloatKind.f64.format (rteV (some r)) (kcv .f64 0) = some (compare (key Ieee.double (rteB r)) (key Ieee.double 0)) := by
      rw [hc]; exact order_key good_double (Nat.le_of_lt f2) (by decide)
    rw [ho] at hz
    have hk0 : key Ieee.double 0 = 0 := by decide
    rw [hk0] at hz
    have hz2 : compare (key Ieee.double (rteB r)) 0 = .eq := by
      cases hcmp : compare (key Ieee.double (rteB r)) (0 : Int) <;> rw [hcmp] at hz <;> first | rfl | cases hz
    have hz3 : key Ieee.double (rteB r) = 0 := by
      have := Int.compare_eq_eq.1 hz2
      exact this
    unfold key at hz3
    split at hz3 <;> omega
  · exact rte_close hs
theorem sine_narrow {x : V} (h : finV x = true) : NarrowOk (sineW (gV x)) := sine_ok (gV_bd h)
end Go.Proofs.Yteckjpdfecgljaa
