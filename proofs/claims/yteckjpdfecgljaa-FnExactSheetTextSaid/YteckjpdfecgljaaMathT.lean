/- Plain facts: planes whose length is nearly 1, and what is square to an axis. -/
import Derived.Test.YteckjpdfecgljaaMathS
import Derived.Test.YteckjpdfecgljaaMathF
namespace Go.Proofs.Yteckjpdfecgljaa
open Go.RowKit Go.Flo
set_option linter.unusedSimpArgs false
set_option linter.unusedVariables false

theorem nn_dot {e : Nat} {p : V3} (h : bdP e p) (l : 64 ≤ e ∧ e ≤ 189) : nn (dotP p p) := by
  obtain ⟨h0, h1, h2⟩ := h
  have b0 := bd_mul h0 h0 (by omega) (by omega) (e := e + e - 127) (by omega) (by omega)
  have b1 := bd_mul h1 h1 (by omega) (by omega) (e := e + e - 127) (by omega) (by omega)
  have b2 := bd_mul h2 h2 (by omega) (by omega) (e := e + e - 127) (by omega) (by omega)
  have n0 := nn_sq h0 l
  have n1 := nn_sq h1 l
  have n2 := nn_sq h2 l
  have s := bd_add b0 b1 (by omega)
  have ns := bd_nn_add b0 b1 (by omega) n0 n1
  exact bd_nn_add s (bd_mono b2 (by omega)) (by omega) ns n2
theorem lbd_of {e : Nat} {x : V} {a : Nat} (hx : x = some a) (h : nn x) (ha : e * Ieee.single.binade ≤ rung Ieee.single a) : lbd e x := by
  obtain ⟨b, hb, hn, hf⟩ := h
  rw [hx] at hb; cases hb
  exact ⟨a, hx, hn, ha, hf⟩
/-- one number is at least so large: so is the length -/
theorem len_low {E e k : Nat} {p : V3} (h : bdP E p) (l : 64 ≤ E ∧ E ≤ 189) (hk : e + e = k + 127) (l2 : 0 < k ∧ k ≤ 250) (hc : ∃ x, (x = p.1 ∨ x = p.2.1 ∨ x = p.2.2) ∧ ∃ a, x = some a ∧ e * Ieee.single.binade ≤ rung Ieee.single a) :
    ∃ b, rootV (dotP p p) = some b ∧ e * Ieee.single.binade ≤ rung Ieee.single b ∧ 0 ≤ key Ieee.single b ∧ rung Ieee.single b < Ieee.single.infRung := by
  obtain ⟨h0, h1, h2⟩ := h
  have b0 := bd_mul h0 h0 (by omega) (by omega) (e := E + E - 127) (by omega) (by omega)
  have b1 := bd_mul h1 h1 (by omega) (by omega) (e := E + E - 127) (by omega) (by omega)
  have b2 := bd_mul h2 h2 (by omega) (by omega) (e := E + E - 127) (by omega) (by omega)
  have n0 := nn_sq h0 l
  have n1 := nn_sq h1 l
  have n2 := nn_sq h2 l
  have s := bd_add b0 b1 (by omega)
  have ns := bd_nn_add b0 b1 (by omega) n0 n1
  have bd2 := bd_add s (bd_mono b2 (by omega)) (by omega)
  have key1 : lbd k (dotP p p) := by
    show lbd k (add (add (mul p.1 p.1) (mul p.2.1 p.2.1)) (mul p.2.2 p.2.2))
    obtain ⟨x, hx, a, ha, hr⟩ := hc
    rcases hx with rfl | rfl | rfl
    · have q : lbd k (mul p.1 p.1) := by rw [ha]; exact lbd_sq (by rw [← ha]; exact h0) l hk l2.1 hr
      exact lbd_add s (bd_mono b2 (by omega)) (by omega) (by omega) ns n2 (.inl (lbd_add b0 b1 (by omega) (by omega) n0 n1 (.inl q)))
    · have q : lbd k (mul p.2.1 p.2.1) := by rw [ha]; exact lbd_sq (by rw [← ha]; exact h1) l hk l2.1 hr
      exact lbd_add s (bd_mono b2 (by omega)) (by omega) (by omega) ns n2 (.inl (lbd_add b0 b1 (by omega) (by omega) n0 n1 (.inr q)))
    · have q : lbd k (mul p.2.2 p.2.2) := by rw [ha]; exact lbd_sq (by rw [← ha]; exact h2) l hk l2.1 hr
      exact lbd_add s (bd_mono b2 (by omega)) (by omega) (by omega) ns n2 (.inr q)
  obtain ⟨a, ha, hn, hlo, hfi⟩ := key1
  obtain ⟨b, hb, hlb⟩ := root_lbd (k := k) (e := e) (a := a) ⟨a, rfl, hn, hlo, hfi⟩ hk (by omega)
  rw [ha]
  have bd3 : bd (E + E - 127 + 1 + 1) (some a) := by rw [← ha]; exact bd2
  obtain ⟨q1, q2⟩ := root_fin hb bd3 (by omega)
  exact ⟨b, hb, hlb, q1, q2⟩
theorem key_of {b : Nat} (h : 0 ≤ key Ieee.single b) : key Ieee.single b = rung Ieee.single b := by
  rcases key_abs b with g | g <;> omega
/-- the numbers of a plane are not too large -/
theorem plane_up {p : V3} (h : bdP 147 p) (hl : le (rootV (dotP p p)) (c32 1065361605) = true) : bdP 128 p := by
  have c1 : c32 1065361605 = some 1065361605 := by kernel_rfl
  have one : ∀ x, (x = p.1 ∨ x = p.2.1 ∨ x = p.2.2) → bd 147 x → bd 128 x := fun x hx hb => by
    obtain ⟨a, rfl, ha⟩ := hb
    rcases Nat.lt_or_ge (128 * Ieee.single.binade) (rung Ieee.single a) with g | g
    · exfalso
      obtain ⟨b, hb, hlo, hk, hf⟩ := len_low (e := 128) (k := 129) h (by omega) (by omega) (by omega) ⟨_, hx, a, rfl, Nat.le_of_lt g⟩
      rw [hb, c1, le_some (Nat.le_of_lt hf) (by decide)] at hl
      have := of_decide_eq_true hl
      rw [key_of hk, show key Ieee.single 1065361605 = 1065361605 from by decide] at this
      have hi : Ieee.single.binade = 8388608 := by decide
      rw [hi] at hlo
      omega
    · exact ⟨a, rfl, g⟩
  exact ⟨one _ (.inl rfl) h.1, one _ (.inr (.inl rfl)) h.2.1, one _ (.inr (.inr rfl)) h.2.2⟩
/-- one of them is not too small -/
theorem plane_low {p : V3} (h : bdP 147 p) (hg : ge (rootV (dotP p p)) (c32 1065336439) = true) : ∃ x, (x = p.1 ∨ x = p.2.1 ∨ x = p.2.2) ∧ ∃ a, x = some a ∧ 125 * Ieee.single.binade ≤ rung Ieee.single a := by
  have c1 : c32 1065336439 = some 1065336439 := by kernel_rfl
  obtain ⟨⟨a0, e0, r0⟩, ⟨a1, e1, r1⟩, ⟨a2, e2, r2⟩⟩ := h
  rcases Nat.lt_or_ge (rung Ieee.single a0) (125 * Ieee.single.binade) with g0 | g0
  rotate_left
  · exact ⟨_, .inl rfl, a0, e0, g0⟩
  rcases Nat.lt_or_ge (rung Ieee.single a1) (125 * Ieee.single.binade) with g1 | g1
  rotate_left
  · exact ⟨_, .inr (.inl rfl), a1, e1, g1⟩
  rcases Nat.lt_or_ge (rung Ieee.single a2) (125 * Ieee.single.binade) with g2 | g2
  rotate_left
  · exact ⟨_, .inr (.inr rfl), a2, e2, g2⟩
  exfalso
  have h0 : bd 125 p.1 := ⟨a0, e0, Nat.le_of_lt g0⟩
  have h1 : bd 125 p.2.1 := ⟨a1, e1, Nat.le_of_lt g1⟩
  have h2 : bd 125 p.2.2 := ⟨a2, e2, Nat.le_of_lt g2⟩
  have b0 := bd_mul h0 h0 (by omega) (by omega) (e := 123) (by omega) (by omega)
  have b1 := bd_mul h1 h1 (by omega) (by omega) (e := 123) (by omega) (by omega)
  have b2 := bd_mul h2 h2 (by omega) (by omega) (e := 123) (by omega) (by omega)
  have s := bd_add b0 b1 (by omega)
  have t : bd 125 (dotP p p) := bd_add s (bd_mono b2 (by omega)) (by omega)
  have nd := nn_dot (e := 125) (p := p) ⟨h0, h1, h2⟩ (by omega)
  obtain ⟨a, ha, hn, hf⟩ := nd
  obtain ⟨a', ha', hr⟩ := t
  rw [ha] at ha'; cases ha'
  obtain ⟨b, hb, hlb⟩ := root_bd (k := 125) (e := 126) hr hn (by omega) (by omega)
  have hi : Ieee.single.binade = 8388608 := by decide
  rw [ha, hb, c1, ge_some (by rw [inf32]; rw [hi] at hlb; omega) (by decide)] at hg
  have := of_decide_eq_true hg
  rw [show key Ieee.single 1065336439 = 1065336439 from by decide] at this
  have kb := (key_bounds b).2
  rw [hi] at hlb
  omega
--## from XMathU.lean.tpl
theorem read_congr {f : Ieee.Format} {a b : Nat} (hr : rung f a = rung f b) (hn : neg f a = neg f b) : f.read a = f.read b := by
  unfold rung at hr
  unfold neg at hn
  unfold Ieee.Format.read
  simp only [hr, hn]
theorem mul_one (a : Nat) : (∃ w, Ieee.single.mul a 1065353216 = some w ∧ Ieee.single.read w = Ieee.single.read a) ∨ (Ieee.single.mul a 1065353216 = none ∧ ∃ s t, Ieee.single.read a = .nan s t) := by
  have r1 : Ieee.single.read 1065353216 = .number false 8388608 (-23) := by decide
  unfold Ieee.Format.mul
  rw [r1]
  rcases Nat.lt_trichotomy (rung Ieee.single a) Ieee.single.infRung with h | h | h
  · obtain ⟨m, i, hr, hp, hv⟩ := read_number Ieee.single h
    refine .inl ⟨Ieee.single.write (.number (neg Ieee.single a) (m * 8388608) (i + -23)), ?_, ?_⟩
    · rw [hr]
      simp only [Ieee.Datum.product, Bool.xor_false, Option.map_some]
    · have hR : rungOf Ieee.single (m * 8388608) (i + -23) = rung Ieee.single a := by
        rw [rungOf_same Ieee.single (m := m) (n := m * 8388608) (i := i) (d := 23) rfl (by omega)]
        have hz : (Ieee.single.leastPlace - i).toNat = 0 := by omega
        exact Nat.le_antisymm (rung_le _ (by rw [hv, hz]; simp)) (rung_ge _ (Nat.le_of_lt h) (by rw [hv, hz]; simp))
      obtain ⟨g1, g2⟩ := rung_write_number Ieee.single (neg Ieee.single a) (m * 8388608) (i + -23)
      exact read_congr (g1.trans hR) g2
  · have hr := read_inf good_single h
    refine .inl ⟨Ieee.single.write (.infinity (neg Ieee.single a)), ?_, ?_⟩
    · rw [hr]; simp [Ieee.Datum.product]
    · obtain ⟨g1, g2⟩ := rung_write_inf Ieee.single (neg Ieee.single a)
      exact read_congr (g1.trans h.symm) g2
  · have hr := read_nan good_single h
    exact .inr ⟨by rw [hr]; rfl, _, _, hr⟩
theorem sum_nanL (s : Bool) (t : Nat) (d : Ieee.Datum) : Ieee.Datum.sum (.nan s t) d = none := by cases d <;> rfl
theorem sum_nanR (s : Bool) (t : Nat) (d : Ieee.Datum) : Ieee.Datum.sum d (.nan s t) = none := by cases d <;> rfl
theorem one_eq : kcv .f32 1065353216 = some 1065353216 := by kernel_rfl
/-- the left side -/
theorem one_left {op : BinOp} (h : op = .add ∨ op = .sub) (x y : V) : vop op .f32 (vop .mul .f32 x (kcv .f32 1065353216)) y = vop op .f32 x y := by
  rw [one_eq]
  cases x with
  | none => rfl
  | some a =>
    show vop op .f32 (Ieee.single.mul a 1065353216) y = _
    rcases mul_one a with ⟨w, e, hr⟩ | ⟨e, s, t, hr⟩
    · rw [e]
      cases y with
      | none => rcases h with rfl | rfl <;> rfl
      | some b =>
        rcases h with rfl | rfl
        · show Ieee.single.add w b = Ieee.single.add a b
          unfold Ieee.Format.add; rw [hr]
        · show Ieee.single.sub w b = Ieee.single.sub a b
          unfold Ieee.Format.sub; rw [hr]
    · rw [e]
      cases y with
      | none => rcases h with rfl | rfl <;> rfl
      | some b =>
        rcases h with rfl | rfl
        · show none = Ieee.single.add a b
          unfold Ieee.Format.add; rw [hr, sum_nanL]; rfl
        · show none = Ieee.single.sub a b
          unfold Ieee.Format.sub; rw [hr, sum_nanL]; rfl
theorem one_right {op : BinOp} (h : op = .add ∨ op = .sub) (x y : V) : vop op .f32 y (vop .mul .f32 x (kcv .f32 1065353216)) = vop op .f32 y x := by
  rw [one_eq]
  cases x with
  | none => rfl
  | some a =>
    show vop op .f32 y (Ieee.single.mul a 1065353216) = _
    rcases mul_one a with ⟨w, e, hr⟩ | ⟨e, s, t, hr⟩
    · rw [e]
      cases y with
      | none => rcases h with rfl | rfl <;> rfl
      | some b =>
        rcases h with rfl | rfl
        · show Ieee.single.add b w = Ieee.single.add b a
          unfold Ieee.Format.add; rw [hr]
        · show Ieee.single.sub b w = Ieee.single.sub b a
          unfold Ieee.Format.sub; rw [hr]
    · rw [e]
      cases y with
      | none => rcases h with rfl | rfl <;> rfl
      | some b =>
        rcases h with rfl | rfl
        · show none = Ieee.single.add b a
          unfold Ieee.Format.add; rw [hr, sum_nanR]; rfl
        · show none = Ieee.single.sub b a
          unfold Ieee.Format.sub; rw [hr]
          cases Ieee.single.read b <;> rfl
--## from XMathV.lean.tpl
theorem mul_fin {x y : V} {r : Nat} (h : mul x y = some r) (hr : rung Ieee.single r < Ieee.single.infRung) : ∃ a b, x = some a ∧ y = some b ∧ rung Ieee.single a < Ieee.single.infRung ∧ rung Ieee.single b < Ieee.single.infRung := by
  cases x with
  | none => cases h
  | some a =>
    cases y with
    | none => cases h
    | some b =>
      have h' : Ieee.single.mul a b = some r := h
      unfold Ieee.Format.mul at h'
      have notInf : ∀ s, Ieee.single.write (.infinity s) = r → False := fun s e => by
        have := (rung_write_inf Ieee.single s).1
        rw [e] at this; omega
      refine ⟨a, b, rfl, rfl, ?_, ?_⟩
      · rcases Nat.lt_or_ge (rung Ieee.single a) Ieee.single.infRung with g | g
        · exact g
        · exfalso
          rcases Nat.eq_or_lt_of_le g with g | g
          · rw [read_inf good_single g.symm] at h'
            cases hb : Ieee.single.read b with
            | nan s t => rw [hb] at h'; cases h'
            | infinity s =>
              rw [hb] at h'
              simp only [Ieee.Datum.product, Option.map_some, Option.some.injEq] at h'
              exact notInf _ h'
            | number s m i =>
              rw [hb] at h'
              simp only [Ieee.Datum.product] at h'
              split at h'
              · cases h'
              · simp only [Option.map_some, Option.some.injEq] at h'; exact notInf _ h'
          · rw [read_nan good_single g] at h'
            cases hb : Ieee.single.read b <;> rw [hb] at h' <;> cases h'
      · rcases Nat.lt_or_ge (rung Ieee.single b) Ieee.single.infRung with g | g
        · exact g
        · exfalso
          rcases Nat.eq_or_lt_of_le g with g | g
          · rw [read_inf good_single g.symm] at h'
            cases hb : Ieee.single.read a with
            | nan s t => rw [hb] at h'; cases h'
            | infinity s =>
              rw [hb] at h'
              simp only [Ieee.Datum.product, Option.map_some, Option.some.injEq] at h'
              exact notInf _ h'
            | number s m i =>
              rw [hb] at h'
              simp only [Ieee.Datum.product] at h'
              split at h'
              · cases h'
              · simp only [Option.map_some, Option.some.injEq] at h'; exact notInf _ h'
          · rw [read_nan good_single g] at h'
            cases hb : Ieee.single.read a <;> rw [hb] at h' <;> cases h'
theorem abd_mul {s1 s2 s r : Nat} {x y : V} (h1 : abd s1 x) (h2 : abd s2 y) (l1 : 0 < s1) (l2 : 0 < s2) (he : s1 + s2 = s + 127) (l : 0 < s) (hs : s ≤ 254) (h : mul x y = some r) (hr : rung Ieee.single r < Ieee.single.infRung) : abd s (some r) := by
  obtain ⟨a, rfl, ha, ra⟩ := h1
  obtain ⟨b, rfl, hb, rb⟩ := h2
  obtain ⟨m, i, ea, pa, va⟩ := read_number Ieee.single ra
  obtain ⟨n, j, eb, pb, vb⟩ := read_number Ieee.single rb
  obtain ⟨A1, hA1⟩ : ∃ A1, A1 = s1 + 22 := ⟨_, rfl⟩
  obtain ⟨A2, hA2⟩ : ∃ A2, A2 = s2 + 22 := ⟨_, rfl⟩
  obtain ⟨A, hA⟩ : ∃ A, A = s + 22 := ⟨_, rfl⟩
  have wa := val_lbd l1 hA1 ha
  have wb := val_lbd l2 hA2 hb
  rw [← va] at wa; rw [← vb] at wb
  have h' : Ieee.single.mul a b = some r := h
  unfold Ieee.Format.mul at h'
  rw [ea, eb] at h'
  simp only [Ieee.Datum.product, Option.map_some, Option.some.injEq] at h'
  refine ⟨r, rfl, ?_, hr⟩
  rw [← h', (rung_write_number _ _ _ _).1]
  have hi : Ieee.single.binade = 8388608 := by decide
  refine rung_ge Ieee.single (by rw [hi, inf32]; omega) ?_
  obtain ⟨d, rfl⟩ : ∃ d, s = d + 1 := ⟨s - 1, by omega⟩
  rw [val_single (A := A) (by omega)]
  have hl : Ieee.single.leastPlace = -149 := by decide
  rw [hl] at wa wb pa pb ⊢
  have hm : 1 * 2 ^ (A1 + A2) ≤ m * n * 2 ^ ((i - -149).toNat + (j - -149).toNat) := by
    rw [Nat.pow_add, Nat.one_mul, Nat.pow_add]
    calc 2 ^ A1 * 2 ^ A2 ≤ (m * 2 ^ (i - -149).toNat) * (n * 2 ^ (j - -149).toNat) := Nat.mul_le_mul wa wb
      _ = m * n * (2 ^ (i - -149).toNat * 2 ^ (j - -149).toNat) := by
          rw [Nat.mul_assoc, Nat.mul_assoc, Nat.mul_left_comm n]
  have := (scale (e3 := A + (-149 - (i + j)).toNat) (e4 := (i + j - -149).toNat) (by clear hm wa wb va vb; omega)).1 hm
  rw [Nat.one_mul, Nat.pow_add] at this
  exact this
--## end
end Go.Proofs.Yteckjpdfecgljaa
