/- A symbolic evaluator of closed terms: operands, tests, operators say what the model says. -/
import Derived.Test.YtpainjecdolgiaaSxX
namespace Go.Sx
open Go Go.RowKit Go.Flo Go.Mem Go.Proofs.Ytpainjecdolgiaa
set_option linter.unusedVariables false
set_option linter.unusedSimpArgs false

section
variable {env : Nat → Sc} {ms : Nat → Nat} {K : Nat → Prop}

theorem const_ok {k : Nat} (h : k < 3) (b n : Nat) : ndOk ⟨k, b, 0⟩ n := .inl h
theorem cellOf_sound {t t' : Tb} {v : Value} {c : C} (h : cellOf t v = some (c, t')) (hw : WF t) : Ext env t t' ∧ Cr (mkE env t' ms K) c v := by
  unfold cellOf at h
  split at h
  · rename_i b
    cases h
    obtain ⟨h1, h2, h3⟩ := intern_spec (env := env) hw (const_ok (k := 1) (by omega) b t.n)
    exact ⟨h1, h2, b, rfl, by show _ = (den env _ _).fv; rw [h3]; rfl⟩
  · rename_i b
    cases hb : Nat.blt b 18446744073709551616 <;> rw [hb] at h <;> simp only [cond_true, cond_false] at h <;> cases h
    obtain ⟨h1, h2, h3⟩ := intern_spec (env := env) hw (const_ok (k := 2) (by omega) b t.n)
    have hlt : b < 18446744073709551616 := Nat.le_of_ble_eq_true hb
    exact ⟨h1, h2, b, rfl, by show _ = (den env _ _).fv; rw [h3]; rfl, hlt⟩
  · cases h; exact ⟨Ext.refl hw, rfl⟩
  · cases h; exact ⟨Ext.refl hw, rfl⟩
  · cases h; exact ⟨Ext.refl hw, rfl⟩
  · cases h; exact ⟨Ext.refl hw, rfl⟩
  · cases h; exact ⟨Ext.refl hw, rfl⟩
  · cases h; exact ⟨Ext.refl hw, rfl⟩
  · rename_i s
    cases h
    refine ⟨Ext.refl hw, fun p hp => ?_, ?_⟩
    · obtain ⟨b, _, rfl⟩ := List.mem_map.1 hp; trivial
    · congr 1
      apply ByteArray.ext
      apply Array.ext'
      show s.data.toList = strB _ (s.data.toList.map fun b => .byt b.toNat)
      generalize s.data.toList = l
      induction l with
      | nil => rfl
      | cons b l ih =>
        show b :: l = UInt8.ofNat b.toNat :: strB _ (l.map fun b => .byt b.toNat)
        rw [← ih, UInt8.ofNat_toNat]
  · cases h
theorem cellsOf_sound : ∀ {vs : List Value} {t t' : Tb} {cs : List C}, cellsOf t vs = some (cs, t') → WF t → Ext env t t' ∧ F2 (Cr (mkE env t' ms K)) cs vs
  | [], t, t', cs, h, hw => by cases h; exact ⟨Ext.refl hw, .nil⟩
  | v :: vs, t, t', cs, h, hw => by
    unfold cellsOf at h
    split at h
    · cases h
    · rename_i c t1 h1
      split at h
      · cases h
      · rename_i cs2 t2 h2
        cases h
        obtain ⟨e1, r1⟩ := cellOf_sound (ms := ms) (K := K) h1 hw
        obtain ⟨e2, r2⟩ := cellsOf_sound h2 e1.wf
        exact ⟨e1.trans e2, .cons (r1.mono (e2.up ms K)) r2⟩
theorem partOf_sound {t t' : Tb} {v : Value} {c : P} (h : partOf t v = some (c, t')) (hw : WF t) : Ext env t t' ∧ Pr (mkE env t' ms K) c v := by
  unfold partOf at h
  split at h
  · rename_i vs
    split at h
    · rename_i cs t1 h1
      cases h
      obtain ⟨e1, r1⟩ := cellsOf_sound (ms := ms) (K := K) h1 hw
      exact ⟨e1, vs.toList, by simp, r1⟩
    · cases h
  · split at h
    · rename_i c1 t1 h1
      cases h
      obtain ⟨e1, r1⟩ := cellOf_sound (ms := ms) (K := K) h1 hw
      exact ⟨e1, r1⟩
    · cases h
/-- the temporaries hold what is said of them -/
def TmOk (e : E) (tm : List A) (a : Act) : Prop := ∀ i y, tm[i]? = some y → Ar e y (a.eval (.tmp i))
theorem TmOk.of {e : E} {tm : List A} {a : Act} (h : F2 (Ar e) tm a.tmps.toList) : TmOk e tm a := fun i y hi => by
  obtain ⟨b, hb, hr⟩ := h.get hi
  have : a.eval (.tmp i) = b := by unfold Act.eval; simp [Array.getD_eq_getD_getElem?, ← Array.getElem?_toList, hb]
  rw [this]; exact hr
theorem opnd_sound {t t' : Tb} {tm : List A} {a : Act} {x : Operand} {y : A} (h : opnd tm t x = some (y, t')) (hw : WF t) (htm : TmOk (mkE env t ms K) tm a) : Ext env t t' ∧ Ar (mkE env t' ms K) y (a.eval x) := by
  unfold opnd at h
  split at h
  · rename_i i
    split at h
    · rename_i z hz
      cases h
      exact ⟨Ext.refl hw, htm i _ (by rw [← getT_eq]; exact hz)⟩
    · cases h
  · rename_i v
    split at h
    · rename_i z t1 h1
      cases h
      obtain ⟨e1, r1⟩ := partOf_sound (ms := ms) (K := K) h1 hw
      exact ⟨e1, r1⟩
    · cases h
  · rename_i f
    cases h
    refine ⟨Ext.refl hw, (show (∀ id ∈ ([] : List Nat), K id) ∧ _ from ⟨fun id h => (by cases h), rfl⟩)⟩
  · cases h
theorem part1_sound {t t' : Tb} {tm : List A} {a : Act} {x : Operand} {y : P} (h : part1 tm t x = some (y, t')) (hw : WF t) (htm : TmOk (mkE env t ms K) tm a) : Ext env t t' ∧ Pr (mkE env t' ms K) y (a.eval x) := by
  unfold part1 at h
  split at h
  · rename_i z t1 h1
    cases h
    exact opnd_sound h1 hw htm
  · cases h
theorem cell1_sound {t t' : Tb} {tm : List A} {a : Act} {x : Operand} {y : C} (h : cell1 tm t x = some (y, t')) (hw : WF t) (htm : TmOk (mkE env t ms K) tm a) : Ext env t t' ∧ Cr (mkE env t' ms K) y (a.eval x) := by
  unfold cell1 at h
  split at h
  · rename_i z t1 h1
    cases h
    exact opnd_sound h1 hw htm
  · cases h
theorem tm_up {t t' : Tb} {tm : List A} {a : Act} (e : Ext env t t') (htm : TmOk (mkE env t ms K) tm a) : TmOk (mkE env t' ms K) tm a := fun i y h => (htm i y h).mono (e.up ms K)
theorem opnds_sound {tm : List A} {a : Act} : ∀ {xs : List Operand} {t t' : Tb} {ys : List A}, opnds tm t xs = some (ys, t') → WF t → TmOk (mkE env t ms K) tm a → Ext env t t' ∧ F2 (Ar (mkE env t' ms K)) ys (xs.map a.eval)
  | [], t, t', ys, h, hw, _ => by cases h; exact ⟨Ext.refl hw, .nil⟩
  | x :: xs, t, t', ys, h, hw, htm => by
    unfold opnds at h
    split at h
    · cases h
    · rename_i y t1 h1
      split at h
      · cases h
      · rename_i ys2 t2 h2
        cases h
        obtain ⟨e1, r1⟩ := opnd_sound h1 hw htm
        obtain ⟨e2, r2⟩ := opnds_sound h2 e1.wf (tm_up e1 htm)
        exact ⟨e1.trans e2, .cons (r1.mono (e2.up ms K)) r2⟩
def Kr (e : E) (x : Nat × P) (y : Nat × Value) : Prop := x.1 = y.1 ∧ Pr e x.2 y.2
theorem parts_sound {tm : List A} {a : Act} : ∀ {xs : List (Nat × Operand)} {t t' : Tb} {ys : List (Nat × P)}, parts tm t xs = some (ys, t') → WF t → TmOk (mkE env t ms K) tm a → Ext env t t' ∧ F2 (Kr (mkE env t' ms K)) ys (xs.map fun (i, x) => (i, a.eval x))
  | [], t, t', ys, h, hw, _ => by cases h; exact ⟨Ext.refl hw, .nil⟩
  | (k, x) :: xs, t, t', ys, h, hw, htm => by
    unfold parts at h
    split at h
    · cases h
    · rename_i y t1 h1
      split at h
      · cases h
      · rename_i ys2 t2 h2
        cases h
        obtain ⟨e1, r1⟩ := part1_sound h1 hw htm
        obtain ⟨e2, r2⟩ := parts_sound h2 e1.wf (tm_up e1 htm)
        exact ⟨e1.trans e2, .cons ⟨rfl, r1.mono (e2.up ms K)⟩ r2⟩

theorem truth_sound {t : Tb} {c : C} {v : Value} {b : Bool × Tb} (h : (truth t c).sel env = some b) (hw : WF t) (hf : FactsOk env t.fs t) (hc : Cr (mkE env t ms K) c v) : v = .bool b.1 := by
  unfold truth at h
  split at h
  · cases h; exact hc
  · rename_i i p
    split at h
    · rename_i b' hk
      cases h
      have := told_sound (env := env) hw hf hk
      obtain ⟨_, hv⟩ := hc
      rw [hv]
      show Value.bool ((den env t.l i).bv == p) = _
      rw [this]
    · cases hb : Nat.blt i t.n <;> rw [hb] at h <;> simp only [cond_true, cond_false] at h
      · cases h
      · cases h
        obtain ⟨_, hv⟩ := hc
        exact hv
  · cases h

theorem arith_op {k : FloatKind} {op : BinOp} {n : Nat} (h : arith k op = some n) : (op = .add ∨ op = .sub ∨ op = .mul ∨ op = .quo) ∧ ∀ (D : Nat → Sc) (i j : Nat), ev env D ⟨n, i, j⟩ = .f (vop op k (D i).fv (D j).fv) := by
  cases k <;> cases op <;> simp [arith] at h <;> subst h <;> exact ⟨by simp, fun _ _ _ => rfl⟩
theorem mulV_comm (x y : Option Nat) : vop .mul .f32 x y = vop .mul .f32 y x := by
  cases x <;> cases y <;> try rfl
  rename_i a b
  show Ieee.single.mul a b = Ieee.single.mul b a
  unfold Ieee.Format.mul
  generalize Ieee.single.read a = d
  generalize Ieee.single.read b = e
  cases d <;> cases e <;> simp only [Ieee.Datum.product] <;> first | rfl | (rw [Bool.xor_comm]) | skip
  all_goals rename_i s m i t n j
  all_goals rw [Nat.mul_comm, Bool.xor_comm, Int.add_comm]
theorem arNd_ev (k i j : Nat) (D : Nat → Sc) : ev env D (arNd k i j) = ev env D ⟨k, i, j⟩ := by
  unfold arNd
  cases hb : (Nat.beq k 5 && Nat.blt j i)
  · rfl
  · simp only [Bool.and_eq_true] at hb
    have := Nat.eq_of_beq_eq_true hb.1
    subst this
    show Sc.f (vop .mul .f32 (D j).fv (D i).fv) = Sc.f (vop .mul .f32 (D i).fv (D j).fv)
    rw [mulV_comm]
theorem arNd_ok {k i j n : Nat} (hi : i < n) (hj : j < n) : ndOk (arNd k i j) n := by
  unfold arNd
  cases (Nat.beq k 5 && Nat.blt j i)
  · exact .inr ⟨hi, hj⟩
  · exact .inr ⟨hj, hi⟩
theorem isOneB_spec {t : Tb} {j : Nat} (hw : WF t) (h : isOneB t j = true) : (den env t.l j).fv = kcv .f32 1065353216 := by
  unfold isOneB at h
  split at h
  · rename_i x hx
    obtain ⟨_, _, hd⟩ := nodeAt_spec (env := env) hw hx
    obtain ⟨k, a, b⟩ := x
    simp only [Bool.and_eq_true] at h
    rw [hd, Nat.eq_of_beq_eq_true h.1, Nat.eq_of_beq_eq_true h.2]; rfl
  · cases h
theorem bare1_spec {t : Tb} {i : Nat} (hw : WF t) (hi : i < t.n) : bare1 t i < t.n ∧ ((den env t.l i).fv = (den env t.l (bare1 t i)).fv ∨ (den env t.l i).fv = vop .mul .f32 (den env t.l (bare1 t i)).fv (kcv .f32 1065353216)) := by
  unfold bare1
  split
  · rename_i x hx
    obtain ⟨g1, g2, g3⟩ := nodeAt_spec (env := env) hw hx
    obtain ⟨k, a, b⟩ := x
    simp only
    cases h5 : Nat.beq k 5 <;> simp only [cond_true, cond_false]
    · exact ⟨hi, .inl (by first | rfl | trivial)⟩
    · have e5 := Nat.eq_of_beq_eq_true h5
      subst e5
      have hlt : a < i ∧ b < i := by
        rcases g2 with g2 | g2
        · simp at g2
        · exact g2
      cases ha : isOneB t a <;> simp only [cond_true, cond_false]
      · cases hb : isOneB t b <;> simp only [cond_true, cond_false]
        · exact ⟨hi, .inl (by first | rfl | trivial)⟩
        · refine ⟨by omega, .inr ?_⟩
          rw [g3, ← isOneB_spec hw hb]; rfl
      · refine ⟨by omega, .inr ?_⟩
        rw [g3, ← isOneB_spec hw ha, mulV_comm]; rfl
  · exact ⟨hi, .inl (by first | rfl | trivial)⟩
theorem arNd1_spec {op : BinOp} {k i j : Nat} {t : Tb} (hk : arith .f32 op = some k) (hw : WF t) (hi : i < t.n) (hj : j < t.n) : ndOk (arNd1 k i j t) t.n ∧ (ev env (den env t.l) (arNd1 k i j t)).fv = vop op .f32 (den env t.l i).fv (den env t.l j).fv := by
  have he := (arith_op (env := env) hk).2
  unfold arNd1
  cases h4 : Nat.ble k 4 <;> simp only [cond_true, cond_false]
  · refine ⟨arNd_ok hi hj, ?_⟩
    rw [arNd_ev, he]; rfl
  · have h4' := Nat.le_of_ble_eq_true h4
    obtain ⟨a1, a2⟩ := bare1_spec (env := env) hw hi
    obtain ⟨b1, b2⟩ := bare1_spec (env := env) hw hj
    refine ⟨.inr ⟨a1, b1⟩, ?_⟩
    rw [he]
    show vop op .f32 (den env t.l (bare1 t i)).fv (den env t.l (bare1 t j)).fv = _
    have hop : op = .add ∨ op = .sub := by
      cases op <;> simp [arith] at hk <;> simp <;> omega
    rcases a2 with a2 | a2 <;> rcases b2 with b2 | b2 <;> rw [a2, b2]
    · rw [one_right hop]
    · rw [one_left hop]
    · rw [one_left hop, one_right hop]
theorem guard_num (op : BinOp) (ty : TypeId) (X Y : Operand) {v w : Value} (hv : (∃ k a, v = .float k a) ∨ (∃ k a, v = .int k a)) (P : Program) (W : World) : (eqGuard op ty X Y v w).run P W = .ok () W := by
  rcases hv with ⟨k, a, rfl⟩ | ⟨k, a, rfl⟩ <;> cases op <;> rfl
theorem cmp_f32 {op : BinOp} {n : Nat} {p : Bool} (h : cmpOp op = some (n, p)) (P : Program) (ty : TypeId) (a b : Nat) (W : World) (D : Nat → Sc) (i j : Nat) (hi : kcv .f32 a = (D i).fv) (hj : kcv .f32 b = (D j).fv) :
    (binOp op ty (.float .f32 a) (.float .f32 b)).run P W = .ok (.bool ((ev env D ⟨20 + n, i, j⟩).bv == p)) W := by
  have o := ord32 a b
  rw [hi, hj] at o
  cases op <;> simp [cmpOp] at h <;> obtain ⟨rfl, rfl⟩ := h <;> (simp [binOp, Op.floatCmp, ev, Sc.bv, cmpB, o, bne, Sem.run]; done)
theorem cmp_f64 {op : BinOp} {n : Nat} {p : Bool} (h : cmpOp op = some (n, p)) (P : Program) (ty : TypeId) (a b : Nat) (W : World) (D : Nat → Sc) (i j : Nat) (hi : kcv .f64 a = (D i).fv) (hj : kcv .f64 b = (D j).fv) :
    (binOp op ty (.float .f64 a) (.float .f64 b)).run P W = .ok (.bool ((ev env D ⟨25 + n, i, j⟩).bv == p)) W := by
  have o := ord64 a b
  rw [hi, hj] at o
  cases op <;> simp [cmpOp] at h <;> obtain ⟨rfl, rfl⟩ := h <;> (simp [binOp, Op.floatCmp, ev, Sc.bv, cmpB, o, bne, Sem.run]; done)
theorem cmp_int {op : BinOp} {n : Nat} {p : Bool} (h : cmpOp op = some (n, p)) (P : Program) (ty : TypeId) (k : IntKind) (a b : Int) (W : World) :
    (binOp op ty (.int k a) (.int k b)).run P W = .ok (.bool (cmpI n a b == p)) W := by
  cases op <;> simp [cmpOp] at h <;> obtain ⟨rfl, rfl⟩ := h <;> (simp [binOp, Op.intCmp, cmpI, bne, Sem.run]; done)
theorem cmp_ev (n : Nat) (hn : n < 5) (D : Nat → Sc) (i j : Nat) : (ev env D ⟨30 + n, i, j⟩).bv = cmpI n (D i).iv (D j).iv := by
  have : n = 0 ∨ n = 1 ∨ n = 2 ∨ n = 3 ∨ n = 4 := by omega
  rcases this with rfl | rfl | rfl | rfl | rfl <;> rfl
theorem cmpOp_lt {op : BinOp} {n : Nat} {p : Bool} (h : cmpOp op = some (n, p)) : n < 5 := by
  cases op <;> simp [cmpOp] at h <;> omega

theorem halfNd_spec {i j : Nat} {t : Tb} (hw : WF t) (hi : i < t.n) (hj : isTwo t j = true) : Ext env t (halfNd i t).2 ∧ (halfNd i t).1 < (halfNd i t).2.n ∧ (den env (halfNd i t).2.l (halfNd i t).1).fv = vop .quo .f32 (den env t.l i).fv (den env t.l j).fv := by
  have h2 : (den env t.l j).fv = kcv .f32 1073741824 := by
    unfold isTwo at hj
    split at hj
    · rename_i x hx
      obtain ⟨_, _, hd⟩ := nodeAt_spec (env := env) hw hx
      obtain ⟨k, a, b⟩ := x
      simp only [Bool.and_eq_true] at hj
      rw [hd, Nat.eq_of_beq_eq_true hj.1, Nat.eq_of_beq_eq_true hj.2]; rfl
    · cases hj
  unfold halfNd
  simp only
  obtain ⟨p1, p2, p3⟩ := intern_spec (env := env) (x := ⟨1, 1056964608, 0⟩) hw (const_ok (by omega) _ _)
  generalize intern ⟨1, 1056964608, 0⟩ t = P at p1 p2 p3 ⊢
  obtain ⟨q1, q2, q3⟩ := intern_spec (env := env) (x := arNd 5 i P.1) p1.wf (arNd_ok (Nat.lt_of_lt_of_le hi p1.le) p2)
  generalize intern (arNd 5 i P.1) P.2 = Q at q1 q2 q3 ⊢
  refine ⟨p1.trans q1, q2, ?_⟩
  rw [q3, arNd_ev, h2, half_eq]
  show vop .mul .f32 (den env Q.2.l i).fv (den env Q.2.l P.1).fv = _
  rw [(p1.trans q1).den i hi, q1.den _ p2, p3]; rfl
theorem sizeOfW_spec {t : Tb} {i u : Nat} (hw : WF t) (h : sizeOfW t i = some u) : u < t.n ∧ (den env t.l i).fv = absV (wide (den env t.l u).fv) := by
  unfold sizeOfW at h
  split at h
  · rename_i a b h1
    split at h
    · rename_i u' b' h2
      cases h
      obtain ⟨g1, _, g3⟩ := nodeAt_spec (env := env) hw h1
      obtain ⟨k1, k2, k3⟩ := nodeAt_spec (env := env) hw h2
      refine ⟨?_, ?_⟩
      · rcases k2 with k2 | k2
        · simp at k2
        · exact Nat.lt_trans k2.1 k1
      · rw [g3]
        show absV (den env t.l a).fv = _
        rw [k3]; rfl
    · cases h
  · cases h
theorem sizeNd_spec {k i j a b : Nat} {t : Tb} (hk : k < 5) (hw : WF t) (hi : sizeOfW t i = some a) (hj : sizeOfW t j = some b) :
    Ext env t (sizeNd k a b t).2 ∧ (sizeNd k a b t).1 < (sizeNd k a b t).2.n ∧ (den env (sizeNd k a b t).2.l (sizeNd k a b t).1).bv = (ev env (den env t.l) ⟨25 + k, i, j⟩).bv := by
  obtain ⟨ha, va⟩ := sizeOfW_spec (env := env) hw hi
  obtain ⟨hb, vb⟩ := sizeOfW_spec (env := env) hw hj
  unfold sizeNd
  obtain ⟨p1, p2, p3⟩ := intern_spec (env := env) (x := ⟨37, a, a⟩) hw (.inr ⟨ha, ha⟩)
  have hb1 := Nat.lt_of_lt_of_le hb p1.le
  obtain ⟨q1, q2, q3⟩ := intern_spec (env := env) (x := ⟨37, b, b⟩) p1.wf (.inr ⟨hb1, hb1⟩)
  have p2' := Nat.lt_of_lt_of_le p2 q1.le
  obtain ⟨r1, r2, r3⟩ := intern_spec (env := env) (x := ⟨20 + k, (intern ⟨37, a, a⟩ t).1, (intern ⟨37, b, b⟩ (intern ⟨37, a, a⟩ t).2).1⟩) q1.wf (.inr ⟨p2', q2⟩)
  refine ⟨(p1.trans q1).trans r1, r2, ?_⟩
  simp only [r3]
  have x1 : (den env (intern ⟨20 + k, (intern ⟨37, a, a⟩ t).1, (intern ⟨37, b, b⟩ (intern ⟨37, a, a⟩ t).2).1⟩ (intern ⟨37, b, b⟩ (intern ⟨37, a, a⟩ t).2).2).2.l (intern ⟨37, a, a⟩ t).1).fv = sizeV (den env t.l a).fv := by
    rw [r1.den _ p2', q1.den _ p2, p3]
    show sizeV (den env _ a).fv = _
    rw [p1.den a ha]
  have x2 : (den env (intern ⟨20 + k, (intern ⟨37, a, a⟩ t).1, (intern ⟨37, b, b⟩ (intern ⟨37, a, a⟩ t).2).1⟩ (intern ⟨37, b, b⟩ (intern ⟨37, a, a⟩ t).2).2).2.l (intern ⟨37, b, b⟩ (intern ⟨37, a, a⟩ t).2).1).fv = sizeV (den env t.l b).fv := by
    rw [r1.den _ q2, q3]
    show sizeV (den env _ b).fv = _
    rw [q1.den b hb1, p1.den b hb]
  have key : ∀ D, ∀ x y : Nat, (D x : Sc).fv = sizeV (den env t.l a).fv → (D y : Sc).fv = sizeV (den env t.l b).fv → (ev env D ⟨20 + k, x, y⟩).bv = (ev env (den env t.l) ⟨25 + k, i, j⟩).bv := fun D x y hx hy => by
    have : k = 0 ∨ k = 1 ∨ k = 2 ∨ k = 3 ∨ k = 4 := by omega
    rcases this with rfl | rfl | rfl | rfl | rfl
    · show cmpB 0 (vord FloatKind.f32.format (D x).fv (D y).fv) = cmpB 0 (vord FloatKind.f64.format (den env t.l i).fv (den env t.l j).fv)
      rw [hx, hy, va, vb, size_ord]
    · show cmpB 1 (vord FloatKind.f32.format (D x).fv (D y).fv) = cmpB 1 (vord FloatKind.f64.format (den env t.l i).fv (den env t.l j).fv)
      rw [hx, hy, va, vb, size_ord]
    · show cmpB 2 (vord FloatKind.f32.format (D x).fv (D y).fv) = cmpB 2 (vord FloatKind.f64.format (den env t.l i).fv (den env t.l j).fv)
      rw [hx, hy, va, vb, size_ord]
    · show cmpB 3 (vord FloatKind.f32.format (D x).fv (D y).fv) = cmpB 3 (vord FloatKind.f64.format (den env t.l i).fv (den env t.l j).fv)
      rw [hx, hy, va, vb, size_ord]
    · show cmpB 4 (vord FloatKind.f32.format (D x).fv (D y).fv) = cmpB 4 (vord FloatKind.f64.format (den env t.l i).fv (den env t.l j).fv)
      rw [hx, hy, va, vb, size_ord]
  exact key _ _ _ x1 x2
/-- an operator on what stands in two cells -/
theorem nzI_ne {b : Int} (h : nzI b = true) : b ≠ 0 := by
  intro e; subst e; cases h
theorem binC_sound {op : BinOp} {x y c : C} {t t' : Tb} {v w : Value} (h : binC op x y t = some (c, t')) (hw : WF t) (hx : Cr (mkE env t ms K) x v) (hy : Cr (mkE env t ms K) y w) (P : Program) (ty : TypeId) (X Y : Operand) (W : World) :
    Ext env t t' ∧ ∃ u n, (do eqGuard op ty X Y v w; binOp op ty v w : Sem Value).run P W = .ok u (W.drewN n) ∧ Cr (mkE env t' ms K) c u := by
  have seq : ∀ (v w : Value) (u : Value) (n : Nat), (∃ k a, v = .float k a) ∨ (∃ k a, v = .int k a) → (binOp op ty v w).run P W = .ok u (W.drewN n) → (do eqGuard op ty X Y v w; binOp op ty v w : Sem Value).run P W = .ok u (W.drewN n) := fun v w u n hv hr => by
    simp only [Sem.run_bind, guard_num op ty X Y hv P W, Result.andThen_ok, hr]
  unfold binC at h
  split at h
  · rename_i i j
    obtain ⟨hi, a, rfl, ha⟩ := hx
    obtain ⟨hj, b, rfl, hb⟩ := hy
    split at h
    · rename_i k hk
      obtain ⟨h4, he⟩ := arith_op (env := env) hk
      cases htwo : (Nat.beq k 6 && isTwo t j) <;> rw [htwo] at h <;> simp only [cond_true, cond_false] at h
      rotate_left
      · cases h
        simp only [Bool.and_eq_true] at htwo
        have hk6 := Nat.eq_of_beq_eq_true htwo.1
        subst hk6
        have hop : op = .quo := by cases op <;> simp [arith] at hk <;> rfl
        subst hop
        obtain ⟨e1, e2, e3⟩ := halfNd_spec (env := env) hw hi htwo.2
        obtain ⟨r, n, hrun, hcv, _⟩ := run_arith (P := P) h4 ty .f32 a b W
        refine ⟨e1, _, n, seq _ _ _ _ (.inl ⟨_, _, rfl⟩) hrun, e2, r, rfl, ?_⟩
        show _ = (den env _ _).fv
        rw [e3, hcv, ha, hb]; rfl
      cases h
      obtain ⟨hok, hev⟩ := arNd1_spec (env := env) hk hw hi hj
      obtain ⟨e1, e2, e3⟩ := intern_spec (env := env) (x := arNd1 k i j t) hw hok
      obtain ⟨r, n, hrun, hcv, _⟩ := run_arith (P := P) h4 ty .f32 a b W
      refine ⟨e1, _, n, seq _ _ _ _ (.inl ⟨_, _, rfl⟩) hrun, e2, r, rfl, ?_⟩
      show _ = (den env _ _).fv
      rw [e3, ev_congr hok fun x hx => e1.den x hx, hev, hcv, ha, hb]; rfl
    · split at h
      · rename_i k p hk
        cases h
        obtain ⟨e1, e2, e3⟩ := intern_spec (env := env) (x := ⟨20 + k, i, j⟩) hw (.inr ⟨hi, hj⟩)
        refine ⟨e1, _, 0, seq _ _ _ 0 (.inl ⟨_, _, rfl⟩) (cmp_f32 (env := env) hk P ty a b W (den env (intern ⟨20 + k, i, j⟩ t).2.l) i j (by rw [e1.den i hi]; exact ha) (by rw [e1.den j hj]; exact hb)), e2, ?_⟩
        show _ = Value.bool ((den env _ _).bv == p)
        rw [e3]
      · cases h
  · rename_i i j
    obtain ⟨hi, a, rfl, ha, _⟩ := hx
    obtain ⟨hj, b, rfl, hb, _⟩ := hy
    split at h
    · rename_i k hk
      cases h
      obtain ⟨h4, he⟩ := arith_op (env := env) hk
      obtain ⟨e1, e2, e3⟩ := intern_spec (env := env) (x := ⟨k, i, j⟩) hw (.inr ⟨hi, hj⟩)
      obtain ⟨r, n, hrun, hcv, hlt⟩ := run_arith (P := P) h4 ty .f64 a b W
      refine ⟨e1, _, n, seq _ _ _ _ (.inl ⟨_, _, rfl⟩) hrun, e2, r, rfl, ?_, hlt⟩
      show _ = (den env _ _).fv
      rw [e3, he, hcv, ha, hb]
      show _ = (vop op FloatKind.f64 (den env _ i).fv (den env _ j).fv)
      rw [e1.den i hi, e1.den j hj]; rfl
    · split at h
      · rename_i k p hk
        split at h
        · rename_i u v hu hv
          cases h
          obtain ⟨e1, e2, e3⟩ := sizeNd_spec (env := env) (k := k) (cmpOp_lt hk) hw hu hv
          refine ⟨e1, _, 0, seq _ _ _ 0 (.inl ⟨_, _, rfl⟩) (cmp_f64 (env := env) hk P ty a b W (den env t.l) i j ha hb), e2, ?_⟩
          show _ = Value.bool ((den env _ _).bv == p)
          rw [e3]
        cases h
        obtain ⟨e1, e2, e3⟩ := intern_spec (env := env) (x := ⟨25 + k, i, j⟩) hw (.inr ⟨hi, hj⟩)
        refine ⟨e1, _, 0, seq _ _ _ 0 (.inl ⟨_, _, rfl⟩) (cmp_f64 (env := env) hk P ty a b W (den env (intern ⟨25 + k, i, j⟩ t).2.l) i j (by rw [e1.den i hi]; exact ha) (by rw [e1.den j hj]; exact hb)), e2, ?_⟩
        show _ = Value.bool ((den env _ _).bv == p)
        rw [e3]
      · cases h
  · rename_i k a k' b
    have hv : v = .int k a := hx
    have hv' : w = .int k' b := hy
    subst hv; subst hv'
    split at h
    · rename_i hkk
      subst hkk
      split at h
      · cases h; exact ⟨Ext.refl hw, _, 0, seq _ _ _ 0 (.inr ⟨_, _, rfl⟩) (by simp [binOp, Op.intArith, Sem.run]; rfl), rfl⟩
      · cases h; exact ⟨Ext.refl hw, _, 0, seq _ _ _ 0 (.inr ⟨_, _, rfl⟩) (by simp [binOp, Op.intArith, Sem.run]; rfl), rfl⟩
      · cases h; exact ⟨Ext.refl hw, _, 0, seq _ _ _ 0 (.inr ⟨_, _, rfl⟩) (by simp [binOp, Op.intArith, Sem.run]; rfl), rfl⟩
      · cases hz : nzI b <;> rw [hz] at h <;> simp only [cond_true, cond_false] at h <;> cases h
        have hb0 := nzI_ne hz
        exact ⟨Ext.refl hw, _, 0, seq _ _ _ 0 (.inr ⟨_, _, rfl⟩) (by simp [binOp, Op.intDiv, Sem.run, hb0]; rfl), rfl⟩
      · cases hz : nzI b <;> rw [hz] at h <;> simp only [cond_true, cond_false] at h <;> cases h
        have hb0 := nzI_ne hz
        exact ⟨Ext.refl hw, _, 0, seq _ _ _ 0 (.inr ⟨_, _, rfl⟩) (by simp [binOp, Op.intDiv, Sem.run, hb0]; rfl), rfl⟩
      · split at h
        · rename_i n p hk
          cases h
          exact ⟨Ext.refl hw, _, 0, seq _ _ _ 0 (.inr ⟨_, _, rfl⟩) (cmp_int hk P ty k a b W), rfl⟩
        · cases h
    · cases h
  · rename_i k i k' j
    obtain ⟨hi, rfl⟩ := hx
    obtain ⟨hj, rfl⟩ := hy
    split at h
    · rename_i hkk
      subst hkk
      split at h
      · rename_i n p hk
        cases h
        obtain ⟨e1, e2, e3⟩ := intern_spec (env := env) (x := ⟨30 + n, i, j⟩) hw (.inr ⟨hi, hj⟩)
        refine ⟨e1, _, 0, seq _ _ _ 0 (.inr ⟨_, _, rfl⟩) (cmp_int hk P ty k _ _ W), e2, ?_⟩
        show _ = Value.bool ((den env _ _).bv == p)
        rw [e3, cmp_ev n (cmpOp_lt hk), e1.den i hi, e1.den j hj]; rfl
      · cases h
    · cases h
  · rename_i ps qs
    obtain ⟨hp, rfl⟩ := hx
    obtain ⟨hq, rfl⟩ := hy
    have hg : ∀ op, (eqGuard op ty X Y (.string ⟨(strB (mkE env t ms K) ps).toArray⟩) (.string ⟨(strB (mkE env t ms K) qs).toArray⟩)).run P W = .ok () W := fun op => by cases op <;> rfl
    split at h
    · generalize hb : Nat.ble _ 1000000 = bb at h
      cases bb <;> simp only [cond_true, cond_false] at h <;> cases h
      have hle := Nat.le_of_ble_eq_true hb
      refine ⟨Ext.refl hw, .string ⟨(strB (mkE env t ms K) (ps ++ qs)).toArray⟩, 0, ?_, fun p h => ?_, rfl⟩
      · simp only [Sem.run_bind, hg, Result.andThen_ok]
        have h1 : (⟨(strB (mkE env t ms K) ps).toArray⟩ : ByteArray).size = lenSts ps := by rw [← lenSts_ok (e := mkE env t ms K) ps]; simp [ByteArray.size]
        have h2 : (⟨(strB (mkE env t ms K) qs).toArray⟩ : ByteArray).size = lenSts qs := by rw [← lenSts_ok (e := mkE env t ms K) qs]; simp [ByteArray.size]
        have hm : ¬ (((⟨(strB (mkE env t ms K) ps).toArray⟩ : ByteArray).size + (⟨(strB (mkE env t ms K) qs).toArray⟩ : ByteArray).size : Nat) : Int) > IntKind.i64.max := by
          rw [h1, h2]
          have : IntKind.i64.max = 9223372036854775807 := by decide
          omega
        show (Op.stringOp .add _ _).run P W = _
        unfold Op.stringOp
        simp only [if_neg hm]
        rw [Sem.run_pure]
        congr 2
        apply ByteArray.ext
        rw [ByteArray.data_append]
        apply Array.ext'
        rw [strB_append]; simp
      · rcases List.mem_append.1 h with h | h
        · exact hp p h
        · exact hq p h
    · generalize hb : sameSts ps qs = bb at h
      cases bb <;> simp only [cond_true, cond_false] at h <;> cases h
      have e := sameSts_eq hb
      subst e
      refine ⟨Ext.refl hw, .bool true, 0, ?_, rfl⟩
      simp only [Sem.run_bind, hg, Result.andThen_ok]
      show (Op.stringOp .eql _ _).run P W = _
      unfold Op.stringOp
      simp; rfl
    · generalize hb : sameSts ps qs = bb at h
      cases bb <;> simp only [cond_true, cond_false] at h <;> cases h
      have e := sameSts_eq hb
      subst e
      refine ⟨Ext.refl hw, .bool false, 0, ?_, rfl⟩
      simp only [Sem.run_bind, hg, Result.andThen_ok]
      show (Op.stringOp .neq _ _).run P W = _
      unfold Op.stringOp
      simp; rfl
    · cases h
  · cases h
theorem settled_sound {x y : C} {t : Tb} {r : C × Tb} {w : Value} (h : (settled x y t).sel env = some r) (hw : WF t) (hf : FactsOk env t.fs t) (hy : Cr (mkE env t ms K) y w) : Cr (mkE env r.2 ms K) r.1 w := by
  have e := settled_ext h hw
  unfold settled at h
  split at h
  · rename_i i p j q
    cases hb : Nat.beq i j <;> rw [hb] at h <;> simp only [cond_true, cond_false] at h
    · have q := Res.bind_ok h; clear h; obtain ⟨b, h1, h⟩ := q
      cases h
      exact truth_sound h1 hw hf hy
    · cases h; exact hy
  · cases h; exact hy
theorem binN_sound {op : BinOp} {x y c : C} {t : Tb} {v w : Value} (h : binN op x y = some c) (hx : Cr (mkE env t ms K) x v) (hy : Cr (mkE env t ms K) y w) (P : Program) {ty : TypeId} {l : Array (String × TypeId)} (hu : P.underlying ty = some (.interface l)) (X Y : Operand) (W : World) :
    ∃ u, (do eqGuard op ty X Y v w; binOp op ty v w : Sem Value).run P W = .ok u W ∧ Cr (mkE env t ms K) c u := by
  unfold binN at h
  split at h
  · cases h
  · rename_i want hw
    split at h
    · rename_i t1 ag bs
      cases h
      obtain ⟨vs, rfl, _⟩ := hx
      have hv : w = .nilIface := hy
      subst hv
      refine ⟨.bool (false == want), ?_, rfl⟩
      have hg : (eqGuard op ty X Y (.iface t1 (inner ag vs)) .nilIface).run P W = .ok () W := by cases op <;> rfl
      have he : (Op.equal ty (.iface t1 (inner ag vs)) .nilIface).run P W = .ok false W := by
        show (Op.equalIn (9999 + 1) ty _ _).run P W = _
        unfold Op.equalIn
        simp only [Sem.run_bind, run_underlying hu, Result.andThen_ok]
        rfl
      simp only [Sem.run_bind, hg, Result.andThen_ok]
      cases op <;> simp at hw <;> subst hw
      · show (do let b ← Op.equal ty (.iface t1 (inner ag vs)) .nilIface; pure (.bool b) : Sem Value).run P W = _
        simp only [Sem.run_bind, he, Result.andThen_ok]; rfl
      · show (do let b ← Op.equal ty (.iface t1 (inner ag vs)) .nilIface; pure (.bool !b) : Sem Value).run P W = _
        simp only [Sem.run_bind, he, Result.andThen_ok]; rfl
    · rename_i t1 ag bs
      cases h
      obtain ⟨vs, rfl, _⟩ := hy
      have hv : v = .nilIface := hx
      subst hv
      refine ⟨.bool (false == want), ?_, rfl⟩
      have hg : (eqGuard op ty X Y .nilIface (.iface t1 (inner ag vs))).run P W = .ok () W := by cases op <;> rfl
      have he : (Op.equal ty .nilIface (.iface t1 (inner ag vs))).run P W = .ok false W := by
        show (Op.equalIn (9999 + 1) ty _ _).run P W = _
        unfold Op.equalIn
        simp only [Sem.run_bind, run_underlying hu, Result.andThen_ok]
        rfl
      simp only [Sem.run_bind, hg, Result.andThen_ok]
      cases op <;> simp at hw <;> subst hw
      · show (do let b ← Op.equal ty .nilIface (.iface t1 (inner ag vs)); pure (.bool b) : Sem Value).run P W = _
        simp only [Sem.run_bind, he, Result.andThen_ok]; rfl
      · show (do let b ← Op.equal ty .nilIface (.iface t1 (inner ag vs)); pure (.bool !b) : Sem Value).run P W = _
        simp only [Sem.run_bind, he, Result.andThen_ok]; rfl
    · cases h
theorem eq_bool {op : BinOp} {w : Bool} (h : (match op with | .eql => some true | .neq => some false | _ => none) = some w) (P : Program) {ty : TypeId} (hu : P.underlying ty = some .bool) (X Y : Operand) (a b : Bool) (W : World) :
    (do eqGuard op ty X Y (.bool a) (.bool b); binOp op ty (.bool a) (.bool b) : Sem Value).run P W = .ok (.bool ((a == b) == w)) W := by
  have hg : (eqGuard op ty X Y (.bool a) (.bool b)).run P W = .ok () W := by cases op <;> rfl
  simp only [Sem.run_bind, hg, Result.andThen_ok]
  cases op <;> simp at h <;> subst h
  · rw [run_eql_bool W ty a b hu]; simp
  · rw [run_neq_bool W ty a b hu]; simp
theorem binB_sound {op : BinOp} {x y c : C} {t : Tb} {v w : Value} (h : binB op x y = some c) (hx : Cr (mkE env t ms K) x v) (hy : Cr (mkE env t ms K) y w) (P : Program) {ty : TypeId} (hu : P.underlying ty = some .bool) (X Y : Operand) (W : World) :
    ∃ u, (do eqGuard op ty X Y v w; binOp op ty v w : Sem Value).run P W = .ok u W ∧ Cr (mkE env t ms K) c u := by
  unfold binB at h
  split at h
  · cases h
  · rename_i want hw
    split at h
    · rename_i a b
      cases h
      have hv : v = .bool a := hx
      have hv' : w = .bool b := hy
      subst hv; subst hv'
      exact ⟨_, eq_bool hw P hu X Y a b W, rfl⟩
    · rename_i i p b
      cases h
      obtain ⟨hi, hv⟩ := hx
      have hv' : w = .bool b := hy
      subst hv; subst hv'
      refine ⟨_, eq_bool hw P hu X Y _ b W, hi, ?_⟩
      cases (mkE env t ms K).D i |>.bv <;> cases p <;> cases b <;> cases want <;> rfl
    · rename_i b i p
      cases h
      have hv' : v = .bool b := hx
      obtain ⟨hi, hv⟩ := hy
      subst hv; subst hv'
      refine ⟨_, eq_bool hw P hu X Y b _ W, hi, ?_⟩
      cases (mkE env t ms K).D i |>.bv <;> cases p <;> cases b <;> cases want <;> rfl
    · rename_i i p j q
      cases hb : Nat.beq i j <;> rw [hb] at h <;> simp only [cond_true, cond_false] at h
      · cases h
      · cases h
        have e := Nat.eq_of_beq_eq_true hb
        subst e
        obtain ⟨hi, hv⟩ := hx
        obtain ⟨_, hv'⟩ := hy
        subst hv; subst hv'
        refine ⟨_, eq_bool hw P hu X Y _ _ W, ?_⟩
        show _ = Value.bool _
        cases (mkE env t ms K).D i |>.bv <;> cases p <;> cases q <;> cases want <;> rfl
    · cases h
end
end Go.Sx
