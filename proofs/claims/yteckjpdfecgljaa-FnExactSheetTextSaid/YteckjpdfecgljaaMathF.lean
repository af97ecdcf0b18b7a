/- Plain facts: lower bounds; the numbers of a unit are at most 2 in size. -/
import Derived.Test.YteckjpdfecgljaaMathE
namespace Go.Proofs.Yteckjpdfecgljaa
open Go.RowKit Go.Flo
set_option linter.unusedSimpArgs false

/-- a finite number that is not negative -/
def nn (x : V) : Prop := ∃ b, x = some b ∧ neg Ieee.single b = false ∧ rung Ieee.single b < Ieee.single.infRung
/-- a finite number of at least 2 ^ (e - 127), without a sign -/
def lbd (e : Nat) (x : V) : Prop := ∃ b, x = some b ∧ neg Ieee.single b = false ∧ e * Ieee.single.binade ≤ rung Ieee.single b ∧ rung Ieee.single b < Ieee.single.infRung
theorem lbd.nn {e : Nat} {x : V} (h : lbd e x) : nn x := by obtain ⟨b, h, h1, _, h2⟩ := h; exact ⟨b, h, h1, h2⟩

theorem val_lbd {e r A : Nat} (he : 0 < e) (hA : A = e + 22) (h : e * Ieee.single.binade ≤ r) : 2 ^ A ≤ val Ieee.single.binade r := by
  obtain ⟨d, rfl⟩ : ∃ d, e = d + 1 := ⟨e - 1, by omega⟩
  have h1 : val Ieee.single.binade ((d + 1) * Ieee.single.binade) = 2 ^ A := val_single (by omega)
  rw [← h1]; exact (val_le (binade_pos _)).2 h

theorem bd_nn_add {e : Nat} {x y : V} (hx : bd e x) (hy : bd e y) (l : 0 < e ∧ e ≤ 253) (h1 : nn x) (h2 : nn y) : nn (add x y) := by
  obtain ⟨a, rfl, na, ra⟩ := h1
  obtain ⟨b, rfl, nb, rb⟩ := h2
  obtain ⟨r, hr, hb⟩ := bd_add hx hy l
  refine ⟨r, hr, ?_, fin_of_bd (by omega) hb⟩
  obtain ⟨m, i, ea, pa, va⟩ := read_number Ieee.single ra
  obtain ⟨n, j, eb, pb, vb⟩ := read_number Ieee.single rb
  have h3 : Ieee.single.add a b = some r := hr
  unfold Ieee.Format.add at h3
  rw [ea, eb, na, nb] at h3
  simp only [Ieee.Datum.sum, Option.map_some, Option.some.injEq] at h3
  rw [← h3, (rung_write_number _ _ _ _).2]
  split
  · rfl
  · have e1 : ∀ m u, 0 ≤ Ieee.signed false m u := fun m u => by
      have e2 : Ieee.signed false m u = ((m <<< u : Nat) : Int) := rfl
      rw [e2]; exact Int.natCast_nonneg _
    have g1 := e1 m (i - min i j).toNat
    have g2 := e1 n (j - min i j).toNat
    simp only [decide_eq_false_iff_not]
    omega

theorem lbd_add {e e0 : Nat} {x y : V} (hx : bd e0 x) (hy : bd e0 y) (l : 0 < e0 ∧ e0 ≤ 253) (l2 : 0 < e ∧ e ≤ 254) (h1 : nn x) (h2 : nn y) (h : lbd e x ∨ lbd e y) : lbd e (add x y) := by
  obtain ⟨r, hr, nr, rr⟩ := bd_nn_add hx hy l h1 h2
  refine ⟨r, hr, nr, ?_, rr⟩
  obtain ⟨a, rfl, na, ra⟩ := h1
  obtain ⟨b, rfl, nb, rb⟩ := h2
  obtain ⟨m, i, ea, pa, va⟩ := read_number Ieee.single ra
  obtain ⟨n, j, eb, pb, vb⟩ := read_number Ieee.single rb
  have h3 : Ieee.single.add a b = some r := hr
  unfold Ieee.Format.add at h3
  rw [ea, eb, na, nb] at h3
  simp only [Ieee.Datum.sum, Option.map_some, Option.some.injEq] at h3
  rw [← h3, (rung_write_number _ _ _ _).1]
  have hbin : Ieee.single.binade = 8388608 := by decide
  refine rung_ge Ieee.single (by rw [inf32, hbin]; omega) ?_
  obtain ⟨A, hA⟩ : ∃ A, A = e + 22 := ⟨_, rfl⟩
  have key : 2 ^ A ≤ val Ieee.single.binade (rung Ieee.single a) ∨ 2 ^ A ≤ val Ieee.single.binade (rung Ieee.single b) := by
    rcases h with ⟨c, hc, _, hl, _⟩ | ⟨c, hc, _, hl, _⟩
    · cases hc; exact .inl (val_lbd l2.1 hA hl)
    · cases hc; exact .inr (val_lbd l2.1 hA hl)
  obtain ⟨d, rfl⟩ : ∃ d, e = d + 1 := ⟨e - 1, by omega⟩
  rw [val_single (A := A) (by omega)]
  have hl : Ieee.single.leastPlace = -149 := by decide
  rw [← va, ← vb] at key
  rw [hl] at pa pb key ⊢
  have e1 : ∀ m u, Ieee.signed false m u = ((m * 2 ^ u : Nat) : Int) := fun m u => by unfold Ieee.signed; rw [Nat.shiftLeft_eq]; rfl
  rw [e1, e1, ← Int.natCast_add, Int.natAbs_natCast]
  have e0 : (-149 - min i j).toNat = 0 := by omega
  rw [e0, Nat.pow_zero, Nat.mul_one, Nat.add_mul, Nat.mul_assoc, Nat.mul_assoc, ← Nat.pow_add, ← Nat.pow_add]
  have e2 : (i - min i j).toNat + (min i j - -149).toNat = (i - -149).toNat := by omega
  have e3 : (j - min i j).toNat + (min i j - -149).toNat = (j - -149).toNat := by omega
  rw [e2, e3]
  rcases key with k | k
  · exact Nat.le_trans k (Nat.le_add_right _ _)
  · exact Nat.le_trans k (Nat.le_add_left _ _)

/-- squares are not negative, and as great as one thinks -/
theorem nn_sq {e : Nat} {x : V} (h : bd e x) (l : 64 ≤ e ∧ e ≤ 189) : nn (mul x x) := by
  obtain ⟨r, hr, hb⟩ := bd_mul (e := e + e - 127) h h (by omega) (by omega) (by omega) (by omega)
  obtain ⟨a, rfl, ha⟩ := h
  refine ⟨r, hr, ?_, fin_of_bd (by omega) hb⟩
  obtain ⟨m, i, ea, pa, va⟩ := read_number Ieee.single (fin_of_bd (by omega) ha)
  have h3 : Ieee.single.mul a a = some r := hr
  unfold Ieee.Format.mul at h3
  rw [ea] at h3
  simp only [Ieee.Datum.product, Option.map_some, Option.some.injEq] at h3
  rw [← h3, (rung_write_number _ _ _ _).2, Bool.xor_self]

theorem lbd_sq {e0 e k : Nat} {a : Nat} (h : bd e0 (some a)) (l : 64 ≤ e0 ∧ e0 ≤ 189) (hk : e + e = k + 127) (l2 : 0 < k) (ha : e * Ieee.single.binade ≤ rung Ieee.single a) : lbd k (mul (some a) (some a)) := by
  obtain ⟨r, hr, nr, rr⟩ := nn_sq h l
  refine ⟨r, hr, nr, ?_, rr⟩
  obtain ⟨_, hc, hb⟩ := h
  cases hc
  have hbin : Ieee.single.binade = 8388608 := by decide
  have he : e ≤ 189 := by
    rw [hbin] at ha hb; omega
  obtain ⟨m, i, ea, pa, va⟩ := read_number Ieee.single (fin_of_bd (by omega) hb)
  have h3 : Ieee.single.mul a a = some r := hr
  unfold Ieee.Format.mul at h3
  rw [ea] at h3
  simp only [Ieee.Datum.product, Option.map_some, Option.some.injEq] at h3
  rw [← h3, (rung_write_number _ _ _ _).1]
  refine rung_ge Ieee.single (by rw [inf32, hbin]; omega) ?_
  obtain ⟨A, hA⟩ : ∃ A, A = e + 22 := ⟨_, rfl⟩
  obtain ⟨B, hB⟩ : ∃ B, B = k + 22 := ⟨_, rfl⟩
  have wa := val_lbd (by omega) hA ha
  rw [← va] at wa
  obtain ⟨d, rfl⟩ : ∃ d, k = d + 1 := ⟨k - 1, by omega⟩
  rw [val_single (A := B) (by omega)]
  have hl : Ieee.single.leastPlace = -149 := by decide
  rw [hl] at wa pa ⊢
  have hm : 1 * 2 ^ (A + A) ≤ m * m * 2 ^ ((i - -149).toNat + (i - -149).toNat) := by
    rw [Nat.pow_add, Nat.one_mul, Nat.pow_add]
    calc 2 ^ A * 2 ^ A ≤ (m * 2 ^ (i - -149).toNat) * (m * 2 ^ (i - -149).toNat) := Nat.mul_le_mul wa wa
      _ = m * m * (2 ^ (i - -149).toNat * 2 ^ (i - -149).toNat) := Nat.mul_mul_mul_comm _ _ _ _
  have := (scale (e3 := B + (-149 - (i + i)).toNat) (e4 := (i + i - -149).toNat) (by clear hm wa va; omega)).1 hm
  rw [Nat.one_mul, Nat.pow_add] at this
  exact this

/-! the root -/
theorem rootFrom_ge (n k : Nat) (hk : k * k ≤ n) : ∀ t r, k < r + 2 ^ t → k ≤ Ieee.Datum.rootFrom n t r := by
  intro t
  induction t with
  | zero => intro r h; simp [Ieee.Datum.rootFrom] at h ⊢; omega
  | succ t ih =>
    intro r h
    unfold Ieee.Datum.rootFrom
    simp only [Nat.one_shiftLeft]
    have h3 : 2 ^ (t + 1) = 2 ^ t + 2 ^ t := by rw [Nat.pow_succ]; omega
    split
    · exact ih _ (by omega)
    · rename_i hn
      refine ih _ ?_
      rcases Nat.lt_or_ge k (r + 2 ^ t) with g | g
      · exact g
      · exact absurd (Nat.le_trans (Nat.mul_le_mul g g) hk) hn

/-- a root of a number of at least 2 ^ (2 s) is at least 2 ^ s -/
theorem root_lower {m : Nat} {i s : Int} {d : Ieee.Datum} (h : Ieee.Datum.root 54 (.number false m i) = some d) (hm : m ≠ 0) (hs : ∀ u v : Nat, (u : Int) + 2 * s = v + i → 2 ^ v ≤ m * 2 ^ u) :
    ∃ M j, d = .number false M j ∧ ∀ u v : Nat, (u : Int) + s = v + j → 2 ^ v ≤ M * 2 ^ u := by
  simp only [Ieee.Datum.root, if_neg hm] at h
  simp only [Bool.false_eq_true, if_false, Option.some.injEq] at h
  subst h
  refine ⟨_, _, rfl, ?_⟩
  generalize hmore : 2 * 54 - m.log2 + ((i - (2 * 54 - m.log2 : Nat)) % 2).toNat = more
  obtain ⟨t, ht⟩ : ∃ t : Int, i - more = 2 * t := ⟨(i - more) / 2, by omega⟩
  have hdiv : (i - (more : Int)) / 2 = t := by omega
  intro u v huv
  rw [hdiv] at huv
  generalize hN : m <<< more = N
  have hN0 : 1 ≤ N := by
    rw [← hN, Nat.shiftLeft_eq]; exact Nat.mul_pos (Nat.pos_of_ne_zero hm) (Nat.two_pow_pos _)
  have hlow : ∀ k : Nat, s = t + k → 2 ^ k ≤ Ieee.Datum.rootFrom N (N.log2 / 2 + 1) 0 := by
    intro k hk
    have h1 : 2 ^ (k + k) ≤ N := by
      rw [← hN, Nat.shiftLeft_eq]
      exact hs more (k + k) (by omega)
    refine rootFrom_ge N (2 ^ k) (by rw [← Nat.pow_add]; exact h1) _ _ ?_
    rw [Nat.zero_add]
    refine Nat.pow_lt_pow_right (by omega) ?_
    have h2 : k + k ≤ N.log2 := (Nat.le_log2 (by omega)).2 h1
    omega
  have hone : 1 ≤ Ieee.Datum.rootFrom N (N.log2 / 2 + 1) 0 := by
    refine rootFrom_ge N 1 (by omega) _ _ ?_
    rw [Nat.zero_add, Nat.pow_succ]
    have := Nat.two_pow_pos (N.log2 / 2); omega
  generalize (Ieee.Datum.rootFrom N (N.log2 / 2 + 1) 0 * Ieee.Datum.rootFrom N (N.log2 / 2 + 1) 0 != N).toNat = c
  generalize hW : Ieee.Datum.rootFrom N (N.log2 / 2 + 1) 0 = W at *
  have hlt : 2 ^ v ≤ 2 * W * 2 ^ u := by
    rcases Int.le_total t s with g | g
    · obtain ⟨k, hk⟩ : ∃ k : Nat, s = t + k := ⟨(s - t).toNat, by omega⟩
      have h1 := hlow k hk
      obtain rfl : v = k + (u + 1) := by omega
      rw [Nat.pow_add, Nat.pow_succ, Nat.mul_comm 2 W, Nat.mul_assoc, Nat.mul_comm 2]
      exact Nat.mul_le_mul_right _ h1
    · rcases Nat.lt_or_ge u v with g2 | g2
      · obtain rfl : v = u + 1 := by omega
        rw [Nat.pow_succ, Nat.mul_comm (2 ^ u), Nat.mul_assoc]
        exact Nat.mul_le_mul_left _ (Nat.le_mul_of_pos_left _ hone)
      · refine Nat.le_trans (Nat.pow_le_pow_right (by omega) g2) ?_
        exact Nat.le_mul_of_pos_left _ (by omega)
  refine Nat.le_trans hlt (Nat.mul_le_mul_right _ (by omega))

theorem narrow_ge {q b R E : Nat} (hE : E = 925) (h : floatToFloatBits .f64 q .f32 = some b) (hq : rung Ieee.double q < Ieee.double.infRung) (hinf : R ≤ Ieee.single.infRung)
    (hR : val Ieee.single.binade R * 2 ^ E ≤ val Ieee.double.binade (rung Ieee.double q)) : R ≤ rung Ieee.single b := by
  obtain ⟨m, p, e, hp, hv⟩ := read_number Ieee.double hq
  have e' : FloatKind.f64.decode q = _ := e
  unfold floatToFloatBits at h
  rw [if_neg (by decide), e'] at h
  simp only at h
  split at h
  · cases h
  · cases h
    have hr := rung_write_number Ieee.single (neg Ieee.double q) m p
    show R ≤ rung Ieee.single (Ieee.single.write (.number (neg Ieee.double q) m p))
    rw [hr.1]
    refine rung_ge Ieee.single hinf ?_
    have hl : Ieee.single.leastPlace = -149 := by decide
    have hd : Ieee.double.leastPlace = -1074 := by decide
    rw [← hv] at hR
    rw [hd] at hR hp
    rw [hl]
    exact (scale (e1 := E) (e2 := (p - -1074).toNat) (by clear hR hv; omega)).1 hR

theorem root_lbd {k e a : Nat} (h : lbd k (some a)) (hk : e + e = k + 127) (l : 0 < k ∧ k ≤ 254 ∧ 0 < e) : ∃ b, rootV (some a) = some b ∧ e * Ieee.single.binade ≤ rung Ieee.single b := by
  obtain ⟨_, hc, na, ha, ra⟩ := h
  cases hc
  obtain ⟨r, m0, p0, hw, _, hneg, _, _⟩ := wide_some ra
  have hE : ∃ E, E = 925 := ⟨_, rfl⟩
  obtain ⟨E, hE⟩ := hE
  have hsm := wide_small rfl ra hw
  have hinf : (1150 + 1) * Ieee.double.binade < Ieee.double.infRung := by decide
  have rr : rung Ieee.double r < Ieee.double.infRung := Nat.lt_of_le_of_lt hsm hinf
  obtain ⟨A, hA⟩ : ∃ A, A = k + 22 := ⟨_, rfl⟩
  obtain ⟨d, rfl⟩ : ∃ d, k = d + 1 := ⟨k - 1, by omega⟩
  have hbd : Ieee.double.binade = 4503599627370496 := by decide
  have hdi : Ieee.double.infRung = 9218868437227405312 := by decide
  have hbs : Ieee.single.binade = 8388608 := by decide
  have low1 : (d + 896 + 1) * Ieee.double.binade ≤ rung Ieee.double r := by
    refine wide_ge hE ra hw (by rw [hbd, hdi]; omega) ?_
    rw [val_double (A := A + E) (by rw [hA, hE]; omega), Nat.pow_add]
    exact Nat.mul_le_mul_right _ (val_lbd (by omega) hA ha)
  have low2 : 2 ^ (A + E) ≤ val Ieee.double.binade (rung Ieee.double r) := by
    rw [← val_double (A := A + E) (d := d + 896) (by rw [hA, hE]; omega)]
    exact (val_le (binade_pos _)).2 low1
  obtain ⟨m, i, er, hp, hv⟩ := read_number Ieee.double rr
  have hd : Ieee.double.leastPlace = -1074 := by decide
  rw [← hv, hd] at low2
  rw [hd] at hp
  have hm : m ≠ 0 := by
    intro h0
    rw [h0, Nat.zero_mul] at low2
    have := Nat.two_pow_pos (A + E); omega
  cases hroot : Ieee.Datum.root 54 (.number false m i) with
  | none => simp [Ieee.Datum.root, hm] at hroot
  | some dd =>
    obtain ⟨M, j, rfl, hlow⟩ := root_lower (s := (e : Int) - 127) hroot hm (fun u v huv => by
      have := (scale (x := 1) (y := m) (e1 := A + E) (e2 := (i - -1074).toNat) (e3 := v) (e4 := u) (by rw [hA, hE]; clear low2 hv low1; omega)).1 (by rw [Nat.one_mul]; exact low2)
      rwa [Nat.one_mul] at this)
    have hq : Ieee.double.sqrt r = some (Ieee.double.write (.number false M j)) := by
      unfold Ieee.Format.sqrt
      rw [er, hneg, na]
      show (Ieee.Datum.root 54 _).map _ = _
      rw [hroot]; rfl
    have hqs := sqrt_rung rfl hsm hq
    have hinf2 : (1118 + 1) * Ieee.double.binade < Ieee.double.infRung := by decide
    obtain ⟨c, rfl⟩ : ∃ c, e = c + 1 := ⟨e - 1, by omega⟩
    have low3 : (c + 896 + 1) * Ieee.double.binade ≤ rung Ieee.double (Ieee.double.write (.number false M j)) := by
      rw [(rung_write_number _ _ _ _).1]
      refine rung_ge Ieee.double (by rw [hbd, hdi]; omega) ?_
      obtain ⟨B, hB⟩ : ∃ B, B = c + 948 := ⟨_, rfl⟩
      rw [val_double (A := B) (by omega), hd, ← Nat.pow_add]
      exact hlow _ _ (by omega)
    obtain ⟨b, hb⟩ := narrow_ok rfl rfl hqs
    refine ⟨b, ?_, ?_⟩
    · unfold rootV
      rw [hw]
      show narrow (Ieee.double.sqrt r) = _
      rw [hq]; exact hb
    · refine narrow_ge hE hb (by omega) (by rw [inf32, hbs]; omega) ?_
      obtain ⟨B, hB⟩ : ∃ B, B = c + 23 := ⟨_, rfl⟩
      rw [val_single (A := B) (by omega), ← Nat.pow_add]
      rw [← val_double (A := B + E) (d := c + 896) (by rw [hB, hE]; omega)]
      exact (val_le (binade_pos _)).2 low3

/-! quotients -/
theorem sticky {D n Z : Nat} (h : D ≤ Z * n) : 2 * (D / n) + (D % n != 0).toNat ≤ 2 * Z := by
  rcases Nat.eq_zero_or_pos n with h0 | h0
  · subst h0
    have : D = 0 := by omega
    subst this; simp
  · have h1 : D / n ≤ Z := by
      rw [Nat.div_le_iff_le_mul_add_pred h0]
      rw [Nat.mul_comm] at h; omega
    have hb : ∀ c : Bool, c.toNat ≤ 1 := by decide
    rcases Nat.lt_or_ge (D / n) Z with g | g
    · have := hb (D % n != 0); omega
    · have h2 : D / n = Z := Nat.le_antisymm h1 g
      have h3 := Nat.div_add_mod D n
      rw [h2, Nat.mul_comm n Z] at h3
      have h4 : D % n = 0 := by omega
      rw [h4, h2]; simp

/-- a finite number of at least 2 ^ (e - 127) in size -/
def abd (e : Nat) (x : V) : Prop := ∃ b, x = some b ∧ e * Ieee.single.binade ≤ rung Ieee.single b ∧ rung Ieee.single b < Ieee.single.infRung
theorem lbd.abd {e : Nat} {x : V} (h : lbd e x) : abd e x := by obtain ⟨b, h, _, h1, h2⟩ := h; exact ⟨b, h, h1, h2⟩
theorem bd_div {a s e : Nat} {x y : V} (hx : bd a x) (hy : abd s y) (l1 : 0 < a ∧ a ≤ 254) (l2 : 0 < s ∧ s ≤ 254) (he : a + 127 = e + s) (l : 0 < e) : bd e (div x y) := by
  obtain ⟨x, rfl, ha⟩ := hx
  obtain ⟨y, rfl, hb, ry⟩ := hy
  obtain ⟨m, i, ea, pa, va⟩ := read_number Ieee.single (fin_of_bd l1.2 ha)
  obtain ⟨n, j, eb, pb, vb⟩ := read_number Ieee.single ry
  obtain ⟨A, hA⟩ : ∃ A, A = a + 22 := ⟨_, rfl⟩
  obtain ⟨S, hS⟩ : ∃ S, S = s + 22 := ⟨_, rfl⟩
  have wa := val_bd l1.1 hA ha
  have wb := val_lbd l2.1 hS hb
  have hl : Ieee.single.leastPlace = -149 := by decide
  rw [← va] at wa; rw [← vb] at wb
  rw [hl] at wa wb pa pb
  have hn : n ≠ 0 := by
    intro h0; rw [h0, Nat.zero_mul] at wb
    have := Nat.two_pow_pos S; omega
  by_cases hm : m = 0
  · refine ⟨Ieee.single.write (.number (neg Ieee.single x ^^ neg Ieee.single y) 0 (i - j - (25 + n.log2 - m.log2 : Nat) - 1)), ?_, ?_⟩
    · show Ieee.single.div x y = _
      unfold Ieee.Format.div
      rw [ea, eb]
      show (Ieee.Datum.quotient 25 _ _).map _ = _
      simp only [Ieee.Datum.quotient, if_neg hn]
      subst hm
      simp
    · rw [(rung_write_number _ _ _ _).1]; unfold rungOf; rw [if_pos rfl]; exact Nat.zero_le _
  · generalize hmore : 25 + n.log2 - m.log2 = more
    have hq : div (some x) (some y) = some (Ieee.single.write (.number (neg Ieee.single x ^^ neg Ieee.single y) (2 * (m <<< more / n) + (m <<< more % n != 0).toNat) (i - j - more - 1))) := by
      show Ieee.single.div x y = _
      unfold Ieee.Format.div
      rw [ea, eb]
      show (Ieee.Datum.quotient 25 _ _).map _ = _
      simp only [Ieee.Datum.quotient, if_neg hn, hmore]
      rfl
    refine ⟨_, hq, ?_⟩
    rw [(rung_write_number _ _ _ _).1]
    refine rung_le Ieee.single ?_
    obtain ⟨B, hB⟩ : ∃ B, B = e + 22 := ⟨_, rfl⟩
    obtain ⟨d, rfl⟩ : ∃ d, e = d + 1 := ⟨e - 1, by omega⟩
    rw [val_single (A := B) (by omega), hl]
    have lm : 2 ^ m.log2 ≤ m := Nat.log2_self_le hm
    have ln : n < 2 ^ (n.log2 + 1) := Nat.lt_log2_self
    -- the sizes in binary digits
    have k1 : (m.log2 : Int) + (i - -149) ≤ A := by
      have h1 : 2 ^ (m.log2 + (i - -149).toNat) ≤ 2 ^ A := by
        rw [Nat.pow_add]; exact Nat.le_trans (Nat.mul_le_mul_right _ lm) wa
      have := (Nat.pow_le_pow_iff_right (a := 2) (by omega)).1 h1
      clear wa wb va vb; omega
    have k2 : (S : Int) < n.log2 + 1 + (j - -149) := by
      have h1 : 2 ^ S < 2 ^ (n.log2 + 1 + (j - -149).toNat) := by
        rw [Nat.pow_add]; exact Nat.lt_of_le_of_lt wb (Nat.mul_lt_mul_of_pos_right ln (Nat.two_pow_pos _))
      have := (Nat.pow_lt_pow_iff_right (a := 2) (by omega)).1 h1
      clear wa wb va vb; omega
    obtain ⟨k, hk⟩ : ∃ k : Nat, (k : Int) = A - S - (i - j) + more := ⟨(A - S - (i - j) + more : Int).toNat, by clear wa wb va vb; omega⟩
    have hD : m <<< more ≤ 2 ^ k * n := by
      rw [Nat.shiftLeft_eq]
      have h1 : m * 2 ^ (i - -149).toNat * 2 ^ S ≤ 2 ^ A * (n * 2 ^ (j - -149).toNat) := Nat.mul_le_mul wa wb
      rw [Nat.mul_assoc, ← Nat.pow_add, ← Nat.mul_assoc, Nat.mul_comm (2 ^ A) n, Nat.mul_assoc, ← Nat.pow_add] at h1
      have := (scale (e3 := more) (e4 := k) (by clear wa wb va vb h1; omega)).1 h1
      rwa [Nat.mul_comm (2 ^ k)]
    have hZ := sticky hD
    refine Nat.le_trans (Nat.mul_le_mul_right _ hZ) ?_
    rw [← Nat.pow_add, Nat.mul_comm 2 (2 ^ k), ← Nat.pow_succ, ← Nat.pow_add]
    exact Nat.pow_le_pow_right (by omega) (by clear wa wb va vb hZ hD; omega)

/-- a number that is there is of a size between two powers -/
theorem size_of {x : Nat} {e0 : Nat} (h : bd e0 (some x)) (l : e0 ≤ 254) : ∃ e, e ≤ 254 ∧ e * Ieee.single.binade ≤ rung Ieee.single x ∧ bd (e + 1) (some x) := by
  obtain ⟨_, hc, hb⟩ := h
  cases hc
  obtain ⟨q, t, hq, ht⟩ : ∃ q t, rung Ieee.single x = q * Ieee.single.binade + t ∧ t < Ieee.single.binade :=
    ⟨rung Ieee.single x / Ieee.single.binade, rung Ieee.single x % Ieee.single.binade, by rw [Nat.mul_comm]; exact (Nat.div_add_mod _ _).symm, Nat.mod_lt _ (binade_pos _)⟩
  have h1 : q * Ieee.single.binade ≤ e0 * Ieee.single.binade := by omega
  have h2 := Nat.le_of_mul_le_mul_right h1 (binade_pos _)
  exact ⟨q, by omega, by omega, x, rfl, by rw [Nat.succ_mul]; omega⟩

theorem unit_num {e0 : Nat} {x : V} {l : V} (hx : bd e0 x) (he : 64 ≤ e0 ∧ e0 ≤ 189) (d : V) (hl : l = rootV d) (hd : bd 254 d) (hn : nn d) (hge : ge l (c32 897581056) = true)
    (hlow : ∀ k, 0 < k → k ≤ 251 → lbd k (mul x x) → lbd k d) : bd 128 (div x l) := by
  have hx0 := hx
  obtain ⟨x, rfl, _⟩ := hx0
  obtain ⟨a, rfl, na, ra⟩ := hn
  have hbs : Ieee.single.binade = 8388608 := by decide
  obtain ⟨e, he1, he2, hx2⟩ := size_of hx (by omega)
  have he3 : e ≤ 189 := by
    obtain ⟨_, hc, hb⟩ := hx; cases hc; rw [hbs] at he2 hb; omega
  have hroot : ∃ b, rootV (some a) = some b := by
    cases h : rootV (some a) with
    | none => rw [hl, h, ge_none] at hge; cases hge
    | some b => exact ⟨b, rfl⟩
  obtain ⟨b, hb⟩ := hroot
  obtain ⟨hk, hr⟩ := root_sign hb ra
  rw [hb] at hl
  subst hl
  have h1 : c32 897581056 = some 897581056 := by kernel_rfl
  have k1 : key Ieee.single 897581056 = 897581056 := by decide
  rw [h1, ge_some (Nat.le_of_lt hr) (by decide), k1] at hge
  have hge2 : 897581056 ≤ key Ieee.single b := of_decide_eq_true hge
  have hnb : neg Ieee.single b = false := by
    cases h : neg Ieee.single b
    · rfl
    · unfold key at hge2; rw [h] at hge2; simp at hge2; omega
  have hrb : 107 * Ieee.single.binade ≤ rung Ieee.single b := by
    unfold key at hge2; rw [hnb] at hge2; simp at hge2; rw [hbs]; omega
  rcases Nat.lt_or_ge e 108 with g | g
  · exact bd_div (a := 108) (s := 107) (bd_mono hx2 (by omega)) ⟨b, rfl, hrb, hr⟩ (by omega) (by omega) (by omega) (by omega)
  · have hsq := lbd_sq (k := e + e - 127) hx he (by omega) (by omega) he2
    have hd2 := hlow _ (by omega) (by omega) hsq
    obtain ⟨b', hb', hlo⟩ := root_lbd (e := e) hd2 (by omega) (by omega)
    rw [hb] at hb'
    cases hb'
    exact bd_div (a := e + 1) (s := e) hx2 ⟨b, rfl, hlo, hr⟩ (by omega) (by omega) (by omega) (by omega)

def bdP (e : Nat) (p : V3) : Prop := bd e p.1 ∧ bd e p.2.1 ∧ bd e p.2.2
theorem bdP_mono {e e' : Nat} {p : V3} (h : bdP e p) (hl : e ≤ e') : bdP e' p := ⟨bd_mono h.1 hl, bd_mono h.2.1 hl, bd_mono h.2.2 hl⟩

/-- the numbers of a unit are at most 2 in size -/
theorem unit_bd {e : Nat} {p : V3} (h : bdP e p) (he : 64 ≤ e ∧ e ≤ 189) (hu : ge (lenV p) (c32 897581056) = true) : bdP 128 (overP p (lenV p)) := by
  obtain ⟨h0, h1, h2⟩ := h
  have n0 := nn_sq h0 he
  have n1 := nn_sq h1 he
  have n2 := nn_sq h2 he
  have m0 := bd_mul (e := e + e - 127) h0 h0 (by omega) (by omega) (by omega) (by omega)
  have m1 := bd_mul (e := e + e - 127) h1 h1 (by omega) (by omega) (by omega) (by omega)
  have m2 := bd_mul (e := e + e - 127) h2 h2 (by omega) (by omega) (by omega) (by omega)
  have s1 := bd_add m0 m1 (by omega)
  have m2' := bd_mono m2 (show e + e - 127 ≤ e + e - 127 + 1 by omega)
  have t1 := bd_nn_add m0 m1 (by omega) n0 n1
  have s2 := bd_add s1 m2' (by omega)
  have t2 := bd_nn_add s1 m2' (by omega) t1 n2
  have low : ∀ k, 0 < k → k ≤ 251 → (lbd k (mul p.1 p.1) ∨ lbd k (mul p.2.1 p.2.1) ∨ lbd k (mul p.2.2 p.2.2)) → lbd k (dotP p p) := by
    intro k k0 k1 hk
    rcases hk with g | g | g
    · exact lbd_add s1 m2' (by omega) (by omega) t1 n2 (.inl (lbd_add m0 m1 (by omega) (by omega) n0 n1 (.inl g)))
    · exact lbd_add s1 m2' (by omega) (by omega) t1 n2 (.inl (lbd_add m0 m1 (by omega) (by omega) n0 n1 (.inr g)))
    · exact lbd_add s1 m2' (by omega) (by omega) t1 n2 (.inr g)
  have hd : bd 254 (dotP p p) := bd_mono s2 (by omega)
  refine ⟨unit_num h0 he (dotP p p) rfl hd t2 hu fun k a b c => low k a b (.inl c), unit_num h1 he (dotP p p) rfl hd t2 hu fun k a b c => low k a b (.inr (.inl c)), unit_num h2 he (dotP p p) rfl hd t2 hu fun k a b c => low k a b (.inr (.inr c))⟩
end Go.Proofs.Yteckjpdfecgljaa
