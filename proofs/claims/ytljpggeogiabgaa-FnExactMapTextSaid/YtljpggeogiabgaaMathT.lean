/- Plain facts: planes whose length is nearly 1, and what is square to an axis. -/
import Derived.Test.YtljpggeogiabgaaMathS
import Derived.Test.YtljpggeogiabgaaMathF
namespace Go.Proofs.Ytljpggeogiabgaa
open Go.RowKit Go.Flo
set_option linter.unusedSimpArgs false
set_option linter.unusedVariables false

theorem nn_dot {e : Nat} {p : V3} (h : bdP e p) (l : 64 ≤ e ∧ e ≤ 189) : nn (dotP p p) := by
  obtain ⟨h0, h1, h2⟩ := h
  have b0 := bd_mul h0 h0 (by omega) (by omega) (e := e + e - 127) (by omega) (by omega)
  have b1 := bd_mul h1 h1 (by omega) (by omega) (e := e + e - 127) (by omega) (by omega)
  have b2 := bd_mul h2 h2 (by omega) (by omega) (e := e + e - 127) (by omega) (by omega)
  have n0 := nn_sq h0 l
  have n1 := nn_sq h1 l
  have n2 := nn_sq h2 l
  have s := bd_add b0 b1 (by omega)
  have ns := bd_nn_add b0 b1 (by omega) n0 n1
  exact bd_nn_add s (bd_mono b2 (by omega)) (by omega) ns n2
theorem lbd_of {e : Nat} {x : V} {a : Nat} (hx : x = some a) (h : nn x) (ha : e * Ieee.single.binade ≤ rung Ieee.single a) : lbd e x := by
  obtain ⟨b, hb, hn, hf⟩ := h
  rw [hx] at hb; cases hb
  exact ⟨a, hx, hn, ha, hf⟩
/-- one number is at least so large: so is the length -/
theorem len_low {E e k : Nat} {p : V3} (h : bdP E p) (l : 64 ≤ E ∧ E ≤ 189) (hk : e + e = k + 127) (l2 : 0 < k ∧ k ≤ 250) (hc : ∃ x, (x = p.1 ∨ x = p.2.1 ∨ x = p.2.2) ∧ ∃ a, x = some a ∧ e * Ieee.single.binade ≤ rung Ieee.single a) :
    ∃ b, rootV (dotP p p) = some b ∧ e * Ieee.single.binade ≤ rung Ieee.single b ∧ 0 ≤ key Ieee.single b ∧ rung Ieee.single b < Ieee.single.infRung := by
  obtain ⟨h0, h1, h2⟩ := h
  have b0 := bd_mul h0 h0 (by omega) (by omega) (e := E + E - 127) (by omega) (by omega)
  have b1 := bd_mul h1 h1 (by omega) (by omega) (e := E + E - 127) (by omega) (by omega)
  have b2 := bd_mul h2 h2 (by omega) (by omega) (e := E + E - 127) (by omega) (by omega)
  have n0 := nn_sq h0 l
  have n1 := nn_sq h1 l
  have n2 := nn_sq h2 l
  have s := bd_add b0 b1 (by omega)
  have ns := bd_nn_add b0 b1 (by omega) n0 n1
  have bd2 := bd_add s (bd_mono b2 (by omega)) (by omega)
  have key1 : lbd k (dotP p p) := by
    show lbd k (add (add (mul p.1 p.1) (mul p.2.1 p.2.1)) (mul p.2.2 p.2.2))
    obtain ⟨x, hx, a, ha, hr⟩ := hc
    rcases hx with rfl | rfl | rfl
    · have q : lbd k (mul p.1 p.1) := by rw [ha]; exact lbd_sq (by rw [← ha]; exact h0) l hk l2.1 hr
      exact lbd_add s (bd_mono b2 (by omega)) (by omega) (by omega) ns n2 (.inl (lbd_add b0 b1 (by omega) (by omega) n0 n1 (.inl q)))
    · have q : lbd k (mul p.2.1 p.2.1) := by rw [ha]; exact lbd_sq (by rw [← ha]; exact h1) l hk l2.1 hr
      exact lbd_add s (bd_mono b2 (by omega)) (by omega) (by omega) ns n2 (.inl (lbd_add b0 b1 (by omega) (by omega) n0 n1 (.inr q)))
    · have q : lbd k (mul p.2.2 p.2.2) := by rw [ha]; exact lbd_sq (by rw [← ha]; exact h2) l hk l2.1 hr
      exact lbd_add s (bd_mono b2 (by omega)) (by omega) (by omega) ns n2 (.inr q)
  obtain ⟨a, ha, hn, hlo, hfi⟩ := key1
  obtain ⟨b, hb, hlb⟩ := root_lbd (k := k) (e := e) (a := a) ⟨a, rfl, hn, hlo, hfi⟩ hk (by omega)
  rw [ha]
  have bd3 : bd (E + E - 127 + 1 + 1) (some a) := by rw [← ha]; exact bd2
  obtain ⟨q1, q2⟩ := root_fin hb bd3 (by omega)
  exact ⟨b, hb, hlb, q1, q2⟩
theorem key_of {b : Nat} (h : 0 ≤ key Ieee.single b) : key Ieee.single b = rung Ieee.single b := by
  rcases key_abs b with g | g <;> omega
/-- the numbers of a plane are not too large -/
theorem plane_up {p : V3} (h : bdP 147 p) (hl : le (rootV (dotP p p)) (c32 1065361605) = true) : bdP 128 p := by
  have c1 : c32 1065361605 = some 1065361605 := by kernel_rfl
  have one : ∀ x, (x = p.1 ∨ x = p.2.1 ∨ x = p.2.2) → bd 147 x → bd 128 x := fun x hx hb => by
    obtain ⟨a, rfl, ha⟩ := hb
    rcases Nat.lt_or_ge (128 * Ieee.single.binade) (rung Ieee.single a) with g | g
    · exfalso
      obtain ⟨b, hb, hlo, hk, hf⟩ := len_low (e := 128) (k := 129) h (by omega) (by omega) (by omega) ⟨_, hx, a, rfl, Nat.le_of_lt g⟩
      rw [hb, c1, le_some (Nat.le_of_lt hf) (by decide)] at hl
      have := of_decide_eq_true hl
      rw [key_of hk, show key Ieee.single 1065361605 = 1065361605 from by decide] at this
      have hi : Ieee.single.binade = 8388608 := by decide
      rw [hi] at hlo
      omega
    · exact ⟨a, rfl, g⟩
  exact ⟨one _ (.inl rfl) h.1, one _ (.inr (.inl rfl)) h.2.1, one _ (.inr (.inr rfl)) h.2.2⟩
/-- one of them is not too small -/
theorem plane_low {p : V3} (h : bdP 147 p) (hg : ge (rootV (dotP p p)) (c32 1065336439) = true) : ∃ x, (x = p.1 ∨ x = p.2.1 ∨ x = p.2.2) ∧ ∃ a, x = some a ∧ 125 * Ieee.single.binade ≤ rung Ieee.single a := by
  have c1 : c32 1065336439 = some 1065336439 := by kernel_rfl
  obtain ⟨⟨a0, e0, r0⟩, ⟨a1, e1, r1⟩, ⟨a2, e2, r2⟩⟩ := h
  rcases Nat.lt_or_ge (rung Ieee.single a0) (125 * Ieee.single.binade) with g0 | g0
  rotate_left
  · exact ⟨_, .inl rfl, a0, e0, g0⟩
  rcases Nat.lt_or_ge (rung Ieee.single a1) (125 * Ieee.single.binade) with g1 | g1
  rotate_left
  · exact ⟨_, .inr (.inl rfl), a1, e1, g1⟩
  rcases Nat.lt_or_ge (rung Ieee.single a2) (125 * Ieee.single.binade) with g2 | g2
  rotate_left
  · exact ⟨_, .inr (.inr rfl), a2, e2, g2⟩
  exfalso
  have h0 : bd 125 p.1 := ⟨a0, e0, Nat.le_of_lt g0⟩
  have h1 : bd 125 p.2.1 := ⟨a1, e1, Nat.le_of_lt g1⟩
  have h2 : bd 125 p.2.2 := ⟨a2, e2, Nat.le_of_lt g2⟩
  have b0 := bd_mul h0 h0 (by omega) (by omega) (e := 123) (by omega) (by omega)
  have b1 := bd_mul h1 h1 (by omega) (by omega) (e := 123) (by omega) (by omega)
  have b2 := bd_mul h2 h2 (by omega) (by omega) (e := 123) (by omega) (by omega)
  have s := bd_add b0 b1 (by omega)
  have t : bd 125 (dotP p p) := bd_add s (bd_mono b2 (by omega)) (by omega)
  have nd := nn_dot (e := 125) (p := p) ⟨h0, h1, h2⟩ (by omega)
  obtain ⟨a, ha, hn, hf⟩ := nd
  obtain ⟨a', ha', hr⟩ := t
  rw [ha] at ha'; cases ha'
  obtain ⟨b, hb, hlb⟩ := root_bd (k := 125) (e := 126) hr hn (by omega) (by omega)
  have hi : Ieee.single.binade = 8388608 := by decide
  rw [ha, hb, c1, ge_some (by rw [inf32]; rw [hi] at hlb; omega) (by decide)] at hg
  have := of_decide_eq_true hg
  rw [show key Ieee.single 1065336439 = 1065336439 from by decide] at this
  have kb := (key_bounds b).2
  rw [hi] at hlb
  omega
end Go.Proofs.Ytljpggeogiabgaa
