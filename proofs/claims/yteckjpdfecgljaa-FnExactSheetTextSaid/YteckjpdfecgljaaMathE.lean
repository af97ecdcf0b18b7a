/- Plain facts: the two ways to a unit agree; what is returned is finite. -/
import Derived.Test.YteckjpdfecgljaaPtD
namespace Go.Proofs.Yteckjpdfecgljaa
open Go.RowKit Go.Flo
set_option linter.unusedSimpArgs false

theorem bd_dot {e : Nat} {p q : V3} (h0 : bd e p.1) (h1 : bd e p.2.1) (h2 : bd e p.2.2) (k0 : bd e q.1) (k1 : bd e q.2.1) (k2 : bd e q.2.2) (l : 64 ≤ e ∧ e ≤ 189) : bd (e + e - 125) (dotP p q) := by
  have a0 := bd_mul (e := e + e - 127) h0 k0 (by omega) (by omega) (by omega) (by omega)
  have a1 := bd_mul (e := e + e - 127) h1 k1 (by omega) (by omega) (by omega) (by omega)
  have a2 := bd_mul (e := e + e - 127) h2 k2 (by omega) (by omega) (by omega) (by omega)
  have s1 := bd_add a0 a1 (by omega)
  have s2 := bd_add s1 (bd_mono a2 (by omega)) (by omega)
  have e1 : e + e - 127 + 1 + 1 = e + e - 125 := by omega
  rw [e1] at s2
  exact s2

theorem plainP_bd {x0 x1 x2 : Nat} (h : plainP (cp x0 x1 x2) = true) : bd 147 (kcv .f32 x0) ∧ bd 147 (kcv .f32 x1) ∧ bd 147 (kcv .f32 x2) := by
  unfold plainP at h
  simp only [Bool.and_eq_true] at h
  exact ⟨bd_plain h.1.1, bd_plain h.1.2, bd_plain h.2⟩

def unitOk (p : V3) : V3 × Int := if (unitS p).2 then ((unitS p).1, 0) else (zeroP, 4)

theorem unit_eq {p : V3} {e : Nat} (he : e ≤ 254) (hb : bd e (dotP p p)) : unitI p = unitOk p := by
  unfold unitI unitOk unitS
  cases hl : lenV p with
  | none =>
    have g : ge none (c32 897581056) = false := ge_none _
    rw [fin_none, g]; rfl
  | some b =>
    obtain ⟨hk, hr⟩ := root_fin (b := b) hl hb he
    rw [finV_num hr, small_pos hr hk]
    cases ge (some b) (c32 897581056)
    · rfl
    · simp [doneV]

def unitOfI (p : V3) : V3 × Int := if !plainP p then (zeroP, 1) else unitI p
def unitOfS (p : V3) : V3 × Int := if !plainP p then (zeroP, 1) else unitOk p
theorem unitOf_eq (x0 x1 x2 : Nat) : unitOfI (cp x0 x1 x2) = unitOfS (cp x0 x1 x2) := by
  unfold unitOfI unitOfS
  cases h : plainP (cp x0 x1 x2)
  · rfl
  · obtain ⟨h0, h1, h2⟩ := plainP_bd h
    exact unit_eq (e := 169) (by omega) (bd_dot (e := 147) h0 h1 h2 h0 h1 h2 (by omega))

theorem zero_fin : finP zeroP = true := by kernel_rfl
theorem done_fin (p : V3) : finP (doneV p).1 = true := by
  unfold doneV
  split
  · assumption
  · exact zero_fin
theorem unitI_fin (p : V3) : finP (unitI p).1 = true := by
  unfold unitI
  split
  · exact zero_fin
  · exact done_fin _
theorem unitOfI_fin (p : V3) : finP (unitOfI p).1 = true := by
  unfold unitOfI
  split
  · exact zero_fin
  · exact unitI_fin _
end Go.Proofs.Yteckjpdfecgljaa
