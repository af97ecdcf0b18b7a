/- A symbolic evaluator of closed terms: known contracts, and the question whether a law holds. -/
import Derived.Test.YtpainjecdolgiaaSxI
namespace Go.Sx
open Go Go.RowKit Go.Flo Go.Mem Go.Proofs.Ytpainjecdolgiaa
set_option linter.unusedVariables false
noncomputable section
set_option linter.unusedSimpArgs false

abbrev SumF := List A → Tb → Option (Res (A × Tb))
def sumsOf (l : List (FuncId × SumF)) : Sums := fun f args t => match l with
  | [] => none
  | x :: l => bif Nat.beq x.1 f then x.2 args t else sumsOf l f args t
def SumOk1 (env : Nat → Sc) (Pm : Program) (f : FuncId) (s : SumF) : Prop := ∀ args t q r, s args t = some q → q.sel env = some r → ∀ ms K vs W, WF t → FactsOk env t.fs t → F2 (Ar (mkE env t ms K)) args vs →
  Calls Pm f vs.toArray W fun e W' => ∃ v', e = .returned v' ∧ Ext env t r.2 ∧ Ar (mkE env r.2 ms K) r.1 v' ∧ Below W.heap.size W W'
theorem sumsOf_ok {env : Nat → Sc} {Pm : Program} : ∀ {l : List (FuncId × SumF)}, (∀ x ∈ l, SumOk1 env Pm x.1 x.2) → SumsOk env Pm (sumsOf l)
  | [], _ => fun f args t q r h => by cases h
  | x :: l, hl => fun f args t q r h hq ms K vs W hw hf ha hb => by
    unfold sumsOf at h
    cases hx : Nat.beq x.1 f <;> rw [hx] at h <;> simp only [cond_true, cond_false] at h
    · exact sumsOf_ok (fun y hy => hl y (List.mem_cons_of_mem _ hy)) f args t q r h hq ms K vs W hw hf ha hb
    · have e := beq_eq hx
      subst e
      exact hl x List.mem_cons_self args t q r h hq ms K vs W hw hf ha

def SumExt1 (env : Nat → Sc) (s : SumF) : Prop := ∀ args t q r, s args t = some q → q.sel env = some r → WF t → Ext env t r.2
theorem sumsOf_ext {env : Nat → Sc} : ∀ {l : List (FuncId × SumF)}, (∀ x ∈ l, SumExt1 env x.2) → SumsExt env (sumsOf l)
  | [], _ => fun f args t q r h => by cases h
  | x :: l, hl => fun f args t q r h hq hw => by
    unfold sumsOf at h
    cases hx : Nat.beq x.1 f <;> rw [hx] at h <;> simp only [cond_true, cond_false] at h
    · exact sumsOf_ext (fun y hy => hl y (List.mem_cons_of_mem _ hy)) f args t q r h hq hw
    · exact hl x List.mem_cons_self args t q r h hq hw

/-- contracts of one number -/
def sum1b (k : Nat) : SumF := fun args t => match args with
  | [.p (.one (.f32 i))] => some (.ok (.p (.one (.bit (intern ⟨k, i, i⟩ t).1 true)), (intern ⟨k, i, i⟩ t).2))
  | _ => none
def sum1f (k : Nat) : SumF := fun args t => match args with
  | [.p (.one (.f32 i))] => some (.ok (.p (.one (.f32 (intern ⟨k, i, i⟩ t).1)), (intern ⟨k, i, i⟩ t).2))
  | _ => none
def sumBits : SumF := fun args t => match args with
  | [.p (.one (.f32 i))] => some (.ok (.p (.one (.num .u32 (intern ⟨16, i, i⟩ t).1)), (intern ⟨16, i, i⟩ t).2))
  | _ => none
def sumHex : SumF := fun args t => match args with
  | [.p (.one (.f32 i))] => some (.ok (.p (.one (.str [.hex i])), t))
  | _ => none
def sameNd (i j : Nat) (t : Tb) : Nat × Tb :=
  let x := intern ⟨16, i, i⟩ t
  let y := intern ⟨16, j, j⟩ x.2
  intern ⟨34, x.1, y.1⟩ y.2
def sumSame : SumF := fun args t => match args with
  | [.p (.one (.f32 i)), .p (.one (.f32 j))] => some (.ok (.p (.one (.bit (sameNd i j t).1 true)), (sameNd i j t).2))
  | _ => none
def and3 (t : Tb) (i j k : Nat) : Res (A × Tb) := (truth t (.bit i true)).bind fun u => bif u.1 then (truth u.2 (.bit j true)).bind (fun v => bif v.1 then .ok (.p (.one (.bit k true)), v.2) else .ok (.p (.one (.bool false)), v.2)) else .ok (.p (.one (.bool false)), u.2)
def sumSame3 : SumF := fun args t => match args with
  | [.p (.agg [.f32 a, .f32 b, .f32 c]), .p (.agg [.f32 x, .f32 y, .f32 z])] =>
    some (and3 (sameNd c z (sameNd b y (sameNd a x t).2).2).2 (sameNd a x t).1 (sameNd b y (sameNd a x t).2).1 (sameNd c z (sameNd b y (sameNd a x t).2).2).1)
  | _ => none
def dotNd (a b c x y z : Nat) (t : Tb) : Nat × Tb :=
  let p := intern (arNd 5 a x) t
  let q := intern (arNd 5 b y) p.2
  let s := intern ⟨3, p.1, q.1⟩ q.2
  let r := intern (arNd 5 c z) s.2
  intern ⟨3, s.1, r.1⟩ r.2
def sumLen : SumF := fun args t => match args with
  | [.p (.agg [.f32 a, .f32 b, .f32 c])] =>
    let d := dotNd a b c a b c t
    some (.ok (.p (.one (.f32 (intern ⟨15, d.1, d.1⟩ d.2).1)), (intern ⟨15, d.1, d.1⟩ d.2).2))
  | _ => none
def ptNd (a b c : Nat) (t : Tb) : Nat × Tb :=
  let p := intern ⟨35, a, a⟩ t
  let q := intern ⟨35, b, b⟩ p.2
  let r := intern ⟨35, c, c⟩ q.2
  let u := intern ⟨36, q.1, r.1⟩ r.2
  intern ⟨36, p.1, u.1⟩ u.2
def sumPt : SumF := fun args t => match args with
  | [.p (.agg [.f32 a, .f32 b, .f32 c])] => some (.ok (.p (.one (.bit (ptNd a b c t).1 true)), (ptNd a b c t).2))
  | _ => none
def sumNaN : SumF := fun args t => match args with
  | [] => some (.ok (.p (.one (.f64 (intern ⟨2, 9221120237041090561, 0⟩ t).1)), (intern ⟨2, 9221120237041090561, 0⟩ t).2))
  | _ => none
def sumAbs : SumF := fun args t => match args with
  | [.p (.one (.f64 i))] => some (.ok (.p (.one (.f64 (intern ⟨38, i, i⟩ t).1)), (intern ⟨38, i, i⟩ t).2))
  | _ => none
def sumEq64 : SumF := fun args t => match args with
  | [.p (.one (.f64 i)), .p (.one (.f64 j))] => bif Nat.beq i j then some (.ok (.p (.one (.bool true)), t)) else none
  | _ => none

section
variable {env : Nat → Sc} {Pm : Program} {f : FuncId}
theorem args1 {e : E} {i : Nat} {vs : List Value} (h : F2 (Ar e) [.p (.one (.f32 i))] vs) : i < e.n ∧ ∃ r, vs = [.float .f32 r] ∧ kcv .f32 r = (e.D i).fv := by
  cases h with
  | cons a b =>
    cases b
    obtain ⟨h1, r, rfl, h2⟩ := a
    exact ⟨h1, r, rfl, h2⟩
theorem args2 {e : E} {i j : Nat} {vs : List Value} (h : F2 (Ar e) [.p (.one (.f32 i)), .p (.one (.f32 j))] vs) : i < e.n ∧ j < e.n ∧ ∃ r s, vs = [.float .f32 r, .float .f32 s] ∧ kcv .f32 r = (e.D i).fv ∧ kcv .f32 s = (e.D j).fv := by
  cases h with
  | cons a b =>
    cases b with
    | cons b c =>
      cases c
      obtain ⟨h1, r, rfl, h2⟩ := a
      obtain ⟨h3, s, rfl, h4⟩ := b
      exact ⟨h1, h3, r, s, rfl, h2, h4⟩
theorem pt_of {e : E} {a b c : Nat} {v : Value} (h : Pr e (.agg [.f32 a, .f32 b, .f32 c]) v) : a < e.n ∧ b < e.n ∧ c < e.n ∧ ∃ x y z, v = .agg #[.float .f32 x, .float .f32 y, .float .f32 z] ∧ kcv .f32 x = (e.D a).fv ∧ kcv .f32 y = (e.D b).fv ∧ kcv .f32 z = (e.D c).fv := by
  obtain ⟨vs, rfl, h⟩ := h
  cases h with
  | cons p h =>
    cases h with
    | cons q h =>
      cases h with
      | cons r h =>
        cases h
        obtain ⟨h1, x, rfl, h2⟩ := p
        obtain ⟨h3, y, rfl, h4⟩ := q
        obtain ⟨h5, z, rfl, h6⟩ := r
        exact ⟨h1, h3, h5, x, y, z, rfl, h2, h4, h6⟩
theorem sum1b_ok {k : Nat} {g : Option Nat → Bool} (h : ∀ x w, Calls Pm f #[.float .f32 x] w fun e w' => e = .returned (.bool (g (kcv .f32 x))) ∧ Below w.heap.size w w') (hk : ∀ D i, ev env D ⟨k, i, i⟩ = .b (g (D i).fv)) : SumOk1 env Pm f (sum1b k) := by
  intro args t q r hs hq ms K vs W hw hf ha
  unfold sum1b at hs
  split at hs
  · rename_i i
    cases hs; cases hq
    obtain ⟨hi, x, rfl, hx⟩ := args1 ha
    obtain ⟨e1, e2, e3⟩ := intern_spec (env := env) (x := ⟨k, i, i⟩) hw (.inr ⟨hi, hi⟩)
    refine (h x W).mono fun e W' ⟨he, hb⟩ => ⟨_, he, e1, ⟨e2, ?_⟩, hb⟩
    show _ = Value.bool ((den env _ _).bv == true)
    rw [e3, hk, hx]
    show _ = Value.bool (g (den env _ i).fv == true)
    rw [e1.den i hi]; simp; rfl
  · cases hs
theorem sum1f_ok {k : Nat} {g : Option Nat → Option Nat} (h : ∀ x w, Calls Pm f #[.float .f32 x] w fun e w' => (∃ r, e = .returned (.float .f32 r) ∧ kcv .f32 r = g (kcv .f32 x)) ∧ Below w.heap.size w w') (hk : ∀ D i, ev env D ⟨k, i, i⟩ = .f (g (D i).fv)) : SumOk1 env Pm f (sum1f k) := by
  intro args t q r hs hq ms K vs W hw hf ha
  unfold sum1f at hs
  split at hs
  · rename_i i
    cases hs; cases hq
    obtain ⟨hi, x, rfl, hx⟩ := args1 ha
    obtain ⟨e1, e2, e3⟩ := intern_spec (env := env) (x := ⟨k, i, i⟩) hw (.inr ⟨hi, hi⟩)
    refine (h x W).mono fun e W' ⟨⟨r, he, hr⟩, hb⟩ => ⟨_, he, e1, ⟨e2, r, rfl, ?_⟩, hb⟩
    show _ = (den env _ _).fv
    rw [e3, hk, hr, hx]
    show _ = g (den env _ i).fv
    rw [e1.den i hi]; rfl
  · cases hs
theorem sumBits_ok (h : ∀ x w, Calls Pm f #[.float .f32 x] w fun e w' => e = .returned (.int .u32 (bitsN (kcv .f32 x))) ∧ Below w.heap.size w w') : SumOk1 env Pm f sumBits := by
  intro args t q r hs hq ms K vs W hw hf ha
  unfold sumBits at hs
  split at hs
  · rename_i i
    cases hs; cases hq
    obtain ⟨hi, x, rfl, hx⟩ := args1 ha
    obtain ⟨e1, e2, e3⟩ := intern_spec (env := env) (x := ⟨16, i, i⟩) hw (.inr ⟨hi, hi⟩)
    refine (h x W).mono fun e W' ⟨he, hb⟩ => ⟨_, he, e1, ⟨e2, ?_⟩, hb⟩
    show _ = Value.int .u32 (den env _ _).iv
    rw [e3, hx]
    show _ = Value.int .u32 (bitsN (den env _ i).fv)
    rw [e1.den i hi]; rfl
  · cases hs
theorem sumAbs_ok (h : ∀ x, x < 2 ^ FloatKind.f64.format.width → ∀ w, Calls Pm f #[.float .f64 x] w fun e w' => (∃ r, e = .returned (.float .f64 r) ∧ kcv .f64 r = absV (kcv .f64 x) ∧ r < 2 ^ FloatKind.f64.format.width) ∧ Below w.heap.size w w') : SumOk1 env Pm f sumAbs := by
  intro args t q r hs hq ms K vs W hw hf ha
  unfold sumAbs at hs
  split at hs
  · rename_i i
    cases hs; cases hq
    cases ha with
    | cons h1 h2 =>
      cases h2
      obtain ⟨hi, x, rfl, hx, hlt⟩ := h1
      obtain ⟨e1, e2, e3⟩ := intern_spec (env := env) (x := ⟨38, i, i⟩) hw (.inr ⟨hi, hi⟩)
      refine (h x hlt W).mono fun e W' ⟨⟨r, he, hr, hb⟩, hbel⟩ => ⟨_, he, e1, ⟨e2, r, rfl, ?_, hb⟩, hbel⟩
      show _ = (den env _ _).fv
      rw [e3, hr, hx]
      show absV (den env t.l i).fv = absV (den env _ i).fv
      rw [e1.den i hi]
  · cases hs
theorem sumHex_ok (h : ∀ x w, Calls Pm f #[.float .f32 x] w fun e w' => e = .returned (.string ⟨(hexB (bitsN (kcv .f32 x))).toArray⟩) ∧ Below w.heap.size w w') : SumOk1 env Pm f sumHex := by
  intro args t q r hs hq ms K vs W hw hf ha
  unfold sumHex at hs
  split at hs
  · rename_i i
    cases hs; cases hq
    obtain ⟨hi, x, rfl, hx⟩ := args1 ha
    refine (h x W).mono fun e W' ⟨he, hb⟩ => ⟨_, he, Ext.refl hw, ⟨fun p hp => ?_, ?_⟩, hb⟩
    · rcases List.mem_cons.1 hp with rfl | hp
      · exact hi
      · cases hp
    · rw [hx]
      show Value.string ⟨(hexB (bitsN (den env t.l i).fv)).toArray⟩ = Value.string ⟨(hexB (bitsN (den env t.l i).fv) ++ []).toArray⟩
      rw [List.append_nil]
  · cases hs
theorem sameNd_spec {i j : Nat} {t : Tb} (hw : WF t) (hi : i < t.n) (hj : j < t.n) : Ext env t (sameNd i j t).2 ∧ (sameNd i j t).1 < (sameNd i j t).2.n ∧ (den env (sameNd i j t).2.l (sameNd i j t).1).bv = ((bitsN (den env t.l i).fv : Int) == (bitsN (den env t.l j).fv : Int)) := by
  unfold sameNd
  obtain ⟨a1, a2, a3⟩ := intern_spec (env := env) (x := ⟨16, i, i⟩) hw (.inr ⟨hi, hi⟩)
  have hj1 : j < (intern ⟨16, i, i⟩ t).2.n := Nat.lt_of_lt_of_le hj a1.le
  obtain ⟨b1, b2, b3⟩ := intern_spec (env := env) (x := ⟨16, j, j⟩) a1.wf (.inr ⟨hj1, hj1⟩)
  have ha2 := Nat.lt_of_lt_of_le a2 b1.le
  obtain ⟨c1, c2, c3⟩ := intern_spec (env := env) (x := ⟨34, (intern ⟨16, i, i⟩ t).1, (intern ⟨16, j, j⟩ (intern ⟨16, i, i⟩ t).2).1⟩) b1.wf (.inr ⟨ha2, b2⟩)
  refine ⟨(a1.trans b1).trans c1, c2, ?_⟩
  simp only [c3]
  show cmpI 4 (den env _ _).iv (den env _ _).iv = _
  rw [c1.den _ ha2, c1.den _ b2, b1.den _ a2, a3, b3]
  show ((bitsN (den env _ i).fv : Int) == (bitsN (den env _ j).fv : Int)) = _
  rw [a1.den i hi, b1.den j hj1, a1.den j hj]
theorem sumSame_ok (h : ∀ x y w, Calls Pm f #[.float .f32 x, .float .f32 y] w fun e w' => e = .returned (.bool ((bitsN (kcv .f32 x) : Int) == (bitsN (kcv .f32 y) : Int))) ∧ Below w.heap.size w w') : SumOk1 env Pm f sumSame := by
  intro args t q r hs hq ms K vs W hw hf ha
  unfold sumSame at hs
  split at hs
  · rename_i i j
    cases hs; cases hq
    obtain ⟨hi, hj, x, y, rfl, hx, hy⟩ := args2 ha
    obtain ⟨e1, e2, e3⟩ := sameNd_spec (env := env) hw hi hj
    refine (h x y W).mono fun e W' ⟨he, hb⟩ => ⟨_, he, e1, ⟨e2, ?_⟩, hb⟩
    show _ = Value.bool ((den env _ _).bv == true)
    rw [e3, hx, hy]; simp; rfl
  · cases hs
theorem and3_ext {t : Tb} {i j k : Nat} {r : A × Tb} (h : (and3 t i j k).sel env = some r) (hw : WF t) : Ext env t r.2 := by
  unfold and3 at h
  have q := Res.bind_ok h; clear h; obtain ⟨⟨u, t1⟩, h1, h2⟩ := q
  have e1 := truth_ext h1 hw
  cases u <;> simp only [cond_true, cond_false] at h2
  · cases h2; exact e1
  · have q := Res.bind_ok h2; clear h2; obtain ⟨⟨v, t2⟩, h3, h4⟩ := q
    have e2 := e1.trans (truth_ext h3 e1.wf)
    cases v <;> simp only [cond_true, cond_false] at h4 <;> cases h4 <;> exact e2
theorem and3_ok {t : Tb} {i j k : Nat} {r : A × Tb} {ms : Nat → Nat} {K : Nat → Prop} (h : (and3 t i j k).sel env = some r) (hw : WF t) (hf : FactsOk env t.fs t) (hi : i < t.n) (hj : j < t.n) (hk : k < t.n) :
    Ar (mkE env r.2 ms K) r.1 (.bool ((den env t.l i).bv && ((den env t.l j).bv && (den env t.l k).bv))) := by
  unfold and3 at h
  have q := Res.bind_ok h; clear h; obtain ⟨⟨u, t1⟩, h1, h2⟩ := q
  have e1 := truth_ext h1 hw
  have hu := truth_sound (env := env) (ms := ms) (K := K) h1 hw hf (v := .bool ((den env t.l i).bv == true)) ⟨hi, rfl⟩
  simp only [Value.bool.injEq, beq_true] at hu
  rw [hu]
  cases u <;> simp only [cond_true, cond_false] at h2
  · cases h2; exact rfl
  · have q := Res.bind_ok h2; clear h2; obtain ⟨⟨v, t2⟩, h3, h4⟩ := q
    have hj1 := Nat.lt_of_lt_of_le hj e1.le
    have e2 := e1.trans (truth_ext h3 e1.wf)
    have hv := truth_sound (env := env) (ms := ms) (K := K) h3 e1.wf (e1.fk hf) (v := .bool ((den env t1.l j).bv == true)) ⟨hj1, rfl⟩
    simp only [Value.bool.injEq, beq_true] at hv
    rw [e1.den j hj] at hv
    rw [hv]
    cases v <;> simp only [cond_true, cond_false] at h4
    · cases h4; exact rfl
    · cases h4
      refine ⟨Nat.lt_of_lt_of_le hk e2.le, ?_⟩
      show _ = Value.bool ((den env t2.l k).bv == true)
      rw [e2.den k hk]
      simp
theorem sumSame3_ok (h : ∀ x0 x1 x2 y0 y1 y2 w, Calls Pm f #[.agg #[.float .f32 x0, .float .f32 x1, .float .f32 x2], .agg #[.float .f32 y0, .float .f32 y1, .float .f32 y2]] w fun e w' => e = .returned (.bool (((bitsN (kcv .f32 x0) : Int) == (bitsN (kcv .f32 y0) : Int)) && (((bitsN (kcv .f32 x1) : Int) == (bitsN (kcv .f32 y1) : Int)) && ((bitsN (kcv .f32 x2) : Int) == (bitsN (kcv .f32 y2) : Int))))) ∧ Below w.heap.size w w') : SumOk1 env Pm f sumSame3 := by
  intro args t q r hs hq ms K vs W hw hf ha
  unfold sumSame3 at hs
  split at hs
  · rename_i a b c x y z
    cases ha with
    | cons ha1 ha2 =>
    cases ha2 with
    | cons ha2 ha3 =>
    cases ha3
    obtain ⟨i1, i2, i3, x0, x1, x2, rfl, k1, k2, k3⟩ := pt_of ha1
    obtain ⟨j1, j2, j3, y0, y1, y2, rfl, l1, l2, l3⟩ := pt_of ha2
    have hs' := hq
    have hsi := Option.some.inj hs
    clear hs hq
    subst hsi
    obtain ⟨p1, p2, p3⟩ := sameNd_spec (env := env) hw i1 j1
    generalize sameNd a x t = p at p1 p2 p3 hs'
    obtain ⟨q1, q2, q3⟩ := sameNd_spec (env := env) p1.wf (Nat.lt_of_lt_of_le i2 p1.le) (Nat.lt_of_lt_of_le j2 p1.le)
    generalize sameNd b y p.2 = q at q1 q2 q3 hs'
    obtain ⟨r1, r2, r3⟩ := sameNd_spec (env := env) q1.wf (Nat.lt_of_lt_of_le i3 (p1.trans q1).le) (Nat.lt_of_lt_of_le j3 (p1.trans q1).le)
    generalize sameNd c z q.2 = u at r1 r2 r3 hs'
    have pq := p1.trans q1
    have ext := pq.trans r1
    rw [p1.den _ i2, p1.den _ j2] at q3
    rw [pq.den _ i3, pq.den _ j3] at r3
    have g1 := ext.trans (and3_ext hs' ext.wf)
    have g2 := and3_ok (env := env) (ms := ms) (K := K) hs' ext.wf (ext.fk hf) (Nat.lt_of_lt_of_le p2 (q1.trans r1).le) (Nat.lt_of_lt_of_le q2 r1.le) r2
    rw [(q1.trans r1).den _ p2, r1.den _ q2, p3, q3, r3] at g2
    refine (h x0 x1 x2 y0 y1 y2 W).mono fun e W' ⟨he, hb⟩ => ⟨_, he, g1, ?_, hb⟩
    rw [k1, k2, k3, l1, l2, l3]
    exact g2
  · cases hs
theorem dotNd_spec {a b c x y z : Nat} {t : Tb} (hw : WF t) (ha : a < t.n) (hb : b < t.n) (hc : c < t.n) (hx : x < t.n) (hy : y < t.n) (hz : z < t.n) : Ext env t (dotNd a b c x y z t).2 ∧ (dotNd a b c x y z t).1 < (dotNd a b c x y z t).2.n ∧
    (den env (dotNd a b c x y z t).2.l (dotNd a b c x y z t).1).fv = vop .add .f32 (vop .add .f32 (vop .mul .f32 (den env t.l a).fv (den env t.l x).fv) (vop .mul .f32 (den env t.l b).fv (den env t.l y).fv)) (vop .mul .f32 (den env t.l c).fv (den env t.l z).fv) := by
  unfold dotNd
  simp only
  obtain ⟨p1, p2, p3⟩ := intern_spec (env := env) (x := arNd 5 a x) hw (arNd_ok ha hx)
  generalize intern (arNd 5 a x) t = P at p1 p2 p3 ⊢
  obtain ⟨q1, q2, q3⟩ := intern_spec (env := env) (x := arNd 5 b y) p1.wf (arNd_ok (Nat.lt_of_lt_of_le hb p1.le) (Nat.lt_of_lt_of_le hy p1.le))
  generalize intern (arNd 5 b y) P.2 = Q at q1 q2 q3 ⊢
  obtain ⟨s1, s2, s3⟩ := intern_spec (env := env) (x := ⟨3, P.1, Q.1⟩) q1.wf (.inr ⟨Nat.lt_of_lt_of_le p2 q1.le, q2⟩)
  generalize intern ⟨3, P.1, Q.1⟩ Q.2 = S at s1 s2 s3 ⊢
  have e3 := (p1.trans q1).trans s1
  obtain ⟨r1, r2, r3⟩ := intern_spec (env := env) (x := arNd 5 c z) s1.wf (arNd_ok (Nat.lt_of_lt_of_le hc e3.le) (Nat.lt_of_lt_of_le hz e3.le))
  generalize intern (arNd 5 c z) S.2 = R at r1 r2 r3 ⊢
  obtain ⟨u1, u2, u3⟩ := intern_spec (env := env) (x := ⟨3, S.1, R.1⟩) r1.wf (.inr ⟨Nat.lt_of_lt_of_le s2 r1.le, r2⟩)
  generalize intern ⟨3, S.1, R.1⟩ R.2 = U at u1 u2 u3 ⊢
  refine ⟨(e3.trans r1).trans u1, u2, ?_⟩
  rw [u3]
  show vop .add .f32 (den env U.2.l S.1).fv (den env U.2.l R.1).fv = _
  rw [u1.den _ (Nat.lt_of_lt_of_le s2 r1.le), u1.den _ r2, r1.den _ s2, s3, r3, arNd_ev]
  show vop .add .f32 (vop .add .f32 (den env S.2.l P.1).fv (den env S.2.l Q.1).fv) (vop .mul .f32 (den env R.2.l c).fv (den env R.2.l z).fv) = _
  rw [(e3.trans r1).den _ hc, (e3.trans r1).den _ hz, s1.den _ (Nat.lt_of_lt_of_le p2 q1.le), s1.den _ q2, q1.den _ p2, p3, q3, arNd_ev, arNd_ev]
  show vop .add .f32 (vop .add .f32 (vop .mul .f32 (den env P.2.l a).fv (den env P.2.l x).fv) (vop .mul .f32 (den env Q.2.l b).fv (den env Q.2.l y).fv)) _ = _
  rw [p1.den _ ha, p1.den _ hx, (p1.trans q1).den _ hb, (p1.trans q1).den _ hy]
theorem sumLen_ok (h : ∀ x0 x1 x2 w, Calls Pm f #[.agg #[.float .f32 x0, .float .f32 x1, .float .f32 x2]] w fun e w' => (∃ r, e = .returned (.float .f32 r) ∧ kcv .f32 r = rootV (vop .add .f32 (vop .add .f32 (vop .mul .f32 (kcv .f32 x0) (kcv .f32 x0)) (vop .mul .f32 (kcv .f32 x1) (kcv .f32 x1))) (vop .mul .f32 (kcv .f32 x2) (kcv .f32 x2)))) ∧ Below w.heap.size w w') : SumOk1 env Pm f sumLen := by
  intro args t q r hs hq ms K vs W hw hf ha
  unfold sumLen at hs
  split at hs
  · rename_i a b c
    cases hs; cases hq
    cases ha with
    | cons ha1 ha2 =>
    cases ha2
    obtain ⟨i1, i2, i3, x0, x1, x2, rfl, k1, k2, k3⟩ := pt_of ha1
    obtain ⟨d1, d2, d3⟩ := dotNd_spec (env := env) hw i1 i2 i3 i1 i2 i3
    obtain ⟨e1, e2, e3⟩ := intern_spec (env := env) (x := ⟨15, (dotNd a b c a b c t).1, (dotNd a b c a b c t).1⟩) d1.wf (.inr ⟨d2, d2⟩)
    refine (h x0 x1 x2 W).mono fun e W' ⟨⟨r, he, hr⟩, hb⟩ => ⟨_, he, d1.trans e1, ⟨e2, r, rfl, ?_⟩, hb⟩
    show _ = (den env _ _).fv
    simp only [e3]
    show _ = rootV (den env _ _).fv
    rw [e1.den _ d2, d3, hr, k1, k2, k3]; rfl
  · cases hs
theorem ptNd_spec {a b c : Nat} {t : Tb} (hw : WF t) (ha : a < t.n) (hb : b < t.n) (hc : c < t.n) : Ext env t (ptNd a b c t).2 ∧ (ptNd a b c t).1 < (ptNd a b c t).2.n ∧
    (den env (ptNd a b c t).2.l (ptNd a b c t).1).bv = (plainV (den env t.l a).fv && (plainV (den env t.l b).fv && plainV (den env t.l c).fv)) := by
  unfold ptNd
  simp only
  obtain ⟨p1, p2, p3⟩ := intern_spec (env := env) (x := ⟨35, a, a⟩) hw (.inr ⟨ha, ha⟩)
  generalize intern ⟨35, a, a⟩ t = P at p1 p2 p3 ⊢
  have hb1 := Nat.lt_of_lt_of_le hb p1.le
  obtain ⟨q1, q2, q3⟩ := intern_spec (env := env) (x := ⟨35, b, b⟩) p1.wf (.inr ⟨hb1, hb1⟩)
  generalize intern ⟨35, b, b⟩ P.2 = Q at q1 q2 q3 ⊢
  have hc2 := Nat.lt_of_lt_of_le hc (p1.trans q1).le
  obtain ⟨r1, r2, r3⟩ := intern_spec (env := env) (x := ⟨35, c, c⟩) q1.wf (.inr ⟨hc2, hc2⟩)
  generalize intern ⟨35, c, c⟩ Q.2 = R at r1 r2 r3 ⊢
  obtain ⟨u1, u2, u3⟩ := intern_spec (env := env) (x := ⟨36, Q.1, R.1⟩) r1.wf (.inr ⟨Nat.lt_of_lt_of_le q2 r1.le, r2⟩)
  generalize intern ⟨36, Q.1, R.1⟩ R.2 = U at u1 u2 u3 ⊢
  have hp4 := Nat.lt_of_lt_of_le p2 ((q1.trans r1).trans u1).le
  obtain ⟨v1, v2, v3⟩ := intern_spec (env := env) (x := ⟨36, P.1, U.1⟩) u1.wf (.inr ⟨hp4, u2⟩)
  generalize intern ⟨36, P.1, U.1⟩ U.2 = V at v1 v2 v3 ⊢
  refine ⟨(((p1.trans q1).trans r1).trans u1).trans v1, v2, ?_⟩
  rw [v3]
  show ((den env V.2.l P.1).bv && (den env V.2.l U.1).bv) = _
  rw [v1.den _ hp4, v1.den _ u2, ((q1.trans r1).trans u1).den _ p2, p3, u3]
  show (plainV (den env P.2.l a).fv && ((den env U.2.l Q.1).bv && (den env U.2.l R.1).bv)) = _
  rw [u1.den _ (Nat.lt_of_lt_of_le q2 r1.le), u1.den _ r2, r1.den _ q2, q3, r3]
  show (plainV (den env P.2.l a).fv && (plainV (den env Q.2.l b).fv && plainV (den env R.2.l c).fv)) = _
  rw [p1.den _ ha, (p1.trans q1).den _ hb, ((p1.trans q1).trans r1).den _ hc]
theorem sumPt_ok (h : ∀ x0 x1 x2 w, Calls Pm f #[.agg #[.float .f32 x0, .float .f32 x1, .float .f32 x2]] w fun e w' => e = .returned (.bool (plainV (kcv .f32 x0) && (plainV (kcv .f32 x1) && plainV (kcv .f32 x2)))) ∧ Below w.heap.size w w') : SumOk1 env Pm f sumPt := by
  intro args t q r hs hq ms K vs W hw hf ha
  unfold sumPt at hs
  split at hs
  · rename_i a b c
    cases hs; cases hq
    cases ha with
    | cons ha1 ha2 =>
    cases ha2
    obtain ⟨i1, i2, i3, x0, x1, x2, rfl, k1, k2, k3⟩ := pt_of ha1
    obtain ⟨d1, d2, d3⟩ := ptNd_spec (env := env) hw i1 i2 i3
    refine (h x0 x1 x2 W).mono fun e W' ⟨he, hb⟩ => ⟨_, he, d1, ⟨d2, ?_⟩, hb⟩
    show _ = Value.bool ((den env _ _).bv == true)
    rw [d3, k1, k2, k3]
    show _ = Value.bool ((plainV (den env t.l a).fv && (plainV (den env t.l b).fv && plainV (den env t.l c).fv)) == true)
    simp; rfl
  · cases hs
theorem sumNaN_ok (h : ∀ w, Calls Pm f #[] w fun e w' => (∃ r, e = .returned (.float .f64 r) ∧ kcv .f64 r = none ∧ r < 2 ^ FloatKind.f64.format.width) ∧ Below w.heap.size w w') : SumOk1 env Pm f sumNaN := by
  intro args t q r hs hq ms K vs W hw hf ha
  unfold sumNaN at hs
  split at hs
  · cases hs; cases hq
    cases ha
    obtain ⟨e1, e2, e3⟩ := intern_spec (env := env) (x := ⟨2, 9221120237041090561, 0⟩) hw (const_ok (by omega) _ _)
    refine (h W).mono fun e W' ⟨⟨r, he, hr, hlt⟩, hb⟩ => ⟨_, he, e1, ⟨e2, r, rfl, ?_, hlt⟩, hb⟩
    show _ = (den env _ _).fv
    rw [e3, hr]
    show none = kcv .f64 9221120237041090561
    exact (cv_none (f := Ieee.double) (w := 9221120237041090561) (by decide)).symm
  · cases hs
theorem sumEq64_ok (h : ∀ x y w, kcv .f64 x = kcv .f64 y → Calls Pm f #[.float .f64 x, .float .f64 y] w fun e w' => e = .returned (.bool true) ∧ Below w.heap.size w w') : SumOk1 env Pm f sumEq64 := by
  intro args t q r hs hq ms K vs W hw hf ha
  unfold sumEq64 at hs
  split at hs
  · rename_i i j
    cases hb : Nat.beq i j <;> rw [hb] at hs <;> simp only [cond_true, cond_false] at hs
    · cases hs
    · cases hs; cases hq
      have e := beq_eq hb
      subst e
      cases ha with
      | cons ha1 ha2 =>
      cases ha2 with
      | cons ha2 ha3 =>
      cases ha3
      obtain ⟨h1, x, rfl, h2, _⟩ := ha1
      obtain ⟨h3, y, rfl, h4, _⟩ := ha2
      refine (h x y W (h2.trans h4.symm)).mono fun e W' ⟨he, hb⟩ => ⟨_, he, Ext.refl hw, rfl, hb⟩
  · cases hs
end

section
variable {env : Nat → Sc}
theorem sum1b_ext {k : Nat} : SumExt1 env (sum1b k) := by
  intro args t q r h hq hw
  unfold sum1b at h
  split at h <;> cases h
  cases hq
  exact intern_ext hw
theorem sum1f_ext {k : Nat} : SumExt1 env (sum1f k) := by
  intro args t q r h hq hw
  unfold sum1f at h
  split at h <;> cases h
  cases hq
  exact intern_ext hw
theorem sumBits_ext : SumExt1 env sumBits := by
  intro args t q r h hq hw
  unfold sumBits at h
  split at h <;> cases h
  cases hq
  exact intern_ext hw
theorem sumAbs_ext : SumExt1 env sumAbs := by
  intro args t q r h hq hw
  unfold sumAbs at h
  split at h <;> cases h
  cases hq
  exact intern_ext hw
theorem sumHex_ext : SumExt1 env sumHex := by
  intro args t q r h hq hw
  unfold sumHex at h
  split at h <;> cases h
  cases hq
  exact Ext.refl hw
theorem sameNd_ext {i j : Nat} {t : Tb} (hw : WF t) : Ext env t (sameNd i j t).2 := by
  unfold sameNd
  have a := intern_ext (env := env) (x := ⟨16, i, i⟩) hw
  have b := a.trans (intern_ext (env := env) (x := ⟨16, j, j⟩) a.wf)
  exact b.trans (intern_ext b.wf)
theorem sumSame_ext : SumExt1 env sumSame := by
  intro args t q r h hq hw
  unfold sumSame at h
  split at h <;> cases h
  cases hq
  exact sameNd_ext hw
theorem sumSame3_ext : SumExt1 env sumSame3 := by
  intro args t q r h hq hw
  unfold sumSame3 at h
  split at h
  · rename_i a b c x y z
    have hsi := Option.some.inj h
    clear h
    subst hsi
    have p := sameNd_ext (env := env) (i := a) (j := x) hw
    generalize sameNd a x t = p1 at p hq
    have q := p.trans (sameNd_ext (env := env) (i := b) (j := y) p.wf)
    generalize sameNd b y p1.2 = p2 at q hq
    have u := q.trans (sameNd_ext (env := env) (i := c) (j := z) q.wf)
    generalize sameNd c z p2.2 = p3 at u hq
    exact u.trans (and3_ext hq u.wf)
  · cases h
theorem dotNd_ext {a b c x y z : Nat} {t : Tb} (hw : WF t) : Ext env t (dotNd a b c x y z t).2 := by
  unfold dotNd
  have p := intern_ext (env := env) (x := arNd 5 a x) hw
  have q := p.trans (intern_ext (env := env) (x := arNd 5 b y) p.wf)
  have s := q.trans (intern_ext (env := env) (x := ⟨3, (intern (arNd 5 a x) t).1, (intern (arNd 5 b y) (intern (arNd 5 a x) t).2).1⟩) q.wf)
  have r := s.trans (intern_ext (env := env) (x := arNd 5 c z) s.wf)
  exact r.trans (intern_ext r.wf)
theorem sumLen_ext : SumExt1 env sumLen := by
  intro args t q r h hq hw
  unfold sumLen at h
  split at h
  · rename_i a b c
    cases h; cases hq
    have d := dotNd_ext (env := env) (a := a) (b := b) (c := c) (x := a) (y := b) (z := c) hw
    exact d.trans (intern_ext d.wf)
  · cases h
theorem ptNd_ext {a b c : Nat} {t : Tb} (hw : WF t) : Ext env t (ptNd a b c t).2 := by
  unfold ptNd
  have p := intern_ext (env := env) (x := ⟨35, a, a⟩) hw
  have q := p.trans (intern_ext (env := env) (x := ⟨35, b, b⟩) p.wf)
  have r := q.trans (intern_ext (env := env) (x := ⟨35, c, c⟩) q.wf)
  have u := r.trans (intern_ext (env := env) (x := ⟨36, (intern ⟨35, b, b⟩ (intern ⟨35, a, a⟩ t).2).1, (intern ⟨35, c, c⟩ (intern ⟨35, b, b⟩ (intern ⟨35, a, a⟩ t).2).2).1⟩) r.wf)
  exact u.trans (intern_ext u.wf)
theorem sumPt_ext : SumExt1 env sumPt := by
  intro args t q r h hq hw
  unfold sumPt at h
  split at h <;> cases h
  cases hq
  exact ptNd_ext hw
theorem sumNaN_ext : SumExt1 env sumNaN := by
  intro args t q r h hq hw
  unfold sumNaN at h
  split at h <;> cases h
  cases hq
  exact intern_ext hw
theorem sumEq64_ext : SumExt1 env sumEq64 := by
  intro args t q r h hq hw
  unfold sumEq64 at h
  split at h
  · rename_i i j
    cases hb : Nat.beq i j <;> rw [hb] at h <;> simp only [cond_true, cond_false] at h <;> cases h
    cases hq
    exact Ext.refl hw
  · cases h
end
/-! does a law hold? -/
/-- numbers for new blocks: below this -/
def topN : Nat := 2582249878086908589655919172003011874329705792829223512830659356540647622016841194629645353280137831435903171972747493376
def says (fs : Facts) : A → Bool
  | .p (.one (.bool b)) => b
  | .p (.one (.bit i p)) => match known fs i with | some b => b == p | none => false
  | _ => false
def Res.all {α : Type} (p : α → Bool) : Res α → Bool
  | .ok a => p a
  | .ask _ _ k => bif (k true).all p then (k false).all p else false
  | .bad _ => false
  | .pan _ _ => false
def check (Pm : Program) (sums : List (FuncId × SumF)) (fuel depth : Nat) (f : FuncId) (args : List A) (top : Nat) (t : Tb) : Bool :=
  (callee Pm (sumsOf sums) drawn fuel depth f args [] t 0 top).all fun r => says r.2.2.2.fs r.1
theorem all_sel {env : Nat → Sc} {α : Type} {p : α → Bool} : ∀ {r : Res α}, r.all p = true → ∃ a, r.sel env = some a ∧ p a = true
  | .ok a, h => ⟨a, rfl, h⟩
  | .ask i t k, h => by
    have h' : (bif (k true).all p then (k false).all p else false) = true := h
    cases h1 : (k true).all p <;> rw [h1] at h' <;> simp only [cond_true, cond_false] at h'
    · cases h'
    · show ∃ a, (k (den env t.l i).bv).sel env = some a ∧ p a = true
      cases (den env t.l i).bv
      · exact all_sel h'
      · exact all_sel h1
  | .bad n, h => by cases h
  | .pan c t, h => by cases h
/-- what is left where some tests are answered -/
def Res.at {α : Type} : List Bool → Res α → Res α
  | b :: l, .ask _ _ k => (k b).at l
  | _, r => r
/-- all ways but those that begin so -/
def Res.allBut {α : Type} (p : α → Bool) : List Bool → Res α → Bool
  | [], _ => true
  | b :: l, .ask _ _ k => bif (k (Bool.rec true false b)).all p then (k b).allBut p l else false
  | _ :: _, r => r.all p
theorem allBut_all {α : Type} {p : α → Bool} : ∀ {l : List Bool} {r : Res α}, r.allBut p l = true → (r.at l).all p = true → r.all p = true
  | [], r, _, h => by cases r <;> exact h
  | b :: l, .ok a, h, _ => h
  | b :: l, .bad n, h, _ => h
  | b :: l, .pan c t, h, _ => h
  | b :: l, .ask i t k, h, h2 => by
    have h' : (bif (k (Bool.rec true false b)).all p then (k b).allBut p l else false) = true := h
    cases h1 : (k (Bool.rec true false b)).all p <;> rw [h1] at h' <;> simp only [cond_true, cond_false] at h'
    · cases h'
    · have h3 : (k b).all p = true := allBut_all h' h2
      show (bif (k true).all p then (k false).all p else false) = true
      cases b
      · have h4 : (k true).all p = true := h1
        rw [h4, h3]; rfl
      · have h4 : (k false).all p = true := h1
        rw [h4, h3]; rfl
theorem at_at {α : Type} : ∀ {l m : List Bool} {r : Res α}, (r.at l).at m = r.at (l ++ m)
  | [], m, r => by cases r <;> rfl
  | b :: l, m, .ask i t k => at_at (l := l) (r := k b)
  | b :: l, m, .ok a => by cases m <;> rfl
  | b :: l, m, .bad n => by cases m <;> rfl
  | b :: l, m, .pan c t => by cases m <;> rfl
/-- a part of a check: the ways that begin with 'l', but those that go on with 'm' -/
def checkP (Pm : Program) (sums : List (FuncId × SumF)) (fuel depth : Nat) (f : FuncId) (args : List A) (top : Nat) (t : Tb) (l m : List Bool) : Bool :=
  ((callee Pm (sumsOf sums) drawn fuel depth f args [] t 0 top).at l).allBut (fun r => says r.2.2.2.fs r.1) m
def checkA (Pm : Program) (sums : List (FuncId × SumF)) (fuel depth : Nat) (f : FuncId) (args : List A) (top : Nat) (t : Tb) (l : List Bool) : Bool :=
  ((callee Pm (sumsOf sums) drawn fuel depth f args [] t 0 top).at l).all fun r => says r.2.2.2.fs r.1
theorem checkA_step {Pm : Program} {sums : List (FuncId × SumF)} {fuel depth : Nat} {f : FuncId} {args : List A} {top : Nat} {t : Tb} {l m : List Bool} (h1 : checkP Pm sums fuel depth f args top t l m = true) (h2 : checkA Pm sums fuel depth f args top t (l ++ m) = true) : checkA Pm sums fuel depth f args top t l = true := by
  unfold checkA at h2 ⊢
  rw [← at_at] at h2
  exact allBut_all h1 h2
theorem checkA_check {Pm : Program} {sums : List (FuncId × SumF)} {fuel depth : Nat} {f : FuncId} {args : List A} {top : Nat} {t : Tb} (h : checkA Pm sums fuel depth f args top t [] = true) : check Pm sums fuel depth f args top t = true := by
  unfold checkA at h
  unfold check
  cases hr : callee Pm (sumsOf sums) drawn fuel depth f args [] t 0 top <;> rw [hr] at h <;> exact h
theorem check_sound {env : Nat → Sc} {Pm : Program} {sums : List (FuncId × SumF)} (hm : Pm.follows .mixedOrders = true) (hs : ∀ x ∈ sums, SumOk1 env Pm x.1 x.2) (hse : ∀ x ∈ sums, SumExt1 env x.2) {fuel depth : Nat} {f : FuncId} {args : List A} {top : Nat} {t : Tb} (h : check Pm sums fuel depth f args top t = true)
    (hw : WF t) (hf : FactsOk env t.fs t) {vs : List Value} (ha : F2 (Ar (mkE env t (fun _ => 0) (fun _ => False))) args vs) (W : World) : Calls Pm f vs.toArray W (Gives (isB true) W) := by
  unfold check at h
  obtain ⟨r, hr, hp⟩ := all_sel (env := env) h
  have hc := callee_sound (fuel := fuel) (sumsOf_ok hs) (sumsOf_ext hse) (drawn_sound (env := env) hm) drawn_ext depth
  refine (hc f args [] t 0 top r hr (fun _ => 0) (fun _ => False) vs W hw ⟨[], .nil, fun x hx => (by cases hx)⟩ ha (fun i _ _ h => h) hf).mono fun e W' ⟨v', he, hd⟩ => ?_
  obtain ⟨ms', K', nl, e1, _, _, _, hv, hmem, _⟩ := hd
  refine ⟨v', he, ?_, hmem.below⟩
  unfold says at hp
  split at hp
  · rename_i b hb
    rw [hb] at hv
    have hv' : v' = .bool b := hv
    rw [hv', hp]; rfl
  · rename_i i p hb
    rw [hb] at hv
    obtain ⟨_, hv'⟩ := hv
    split at hp
    · rename_i b hk
      have := known_sound (env := env) hk (e1.fk hf)
      rw [hv']
      show Value.bool ((den env r.2.2.2.l i).bv == p) = .bool true
      rw [this, hp]
    · cases hp
  · cases hp

/-- a law holds where a table says what it says -/
def Holds (env : Nat → Sc) (Pm : Program) (f : FuncId) (args : List A) (t : Tb) : Prop := WF t → FactsOk env t.fs t → ∀ (vs : List Value), F2 (Ar (mkE env t (fun _ => 0) (fun _ => False))) args vs → ∀ W, Calls Pm f vs.toArray W (Gives (isB true) W)
theorem check_holds {env : Nat → Sc} {Pm : Program} {sums : List (FuncId × SumF)} (hm : Pm.follows .mixedOrders = true) (hs : ∀ x ∈ sums, SumOk1 env Pm x.1 x.2) (hse : ∀ x ∈ sums, SumExt1 env x.2) {fuel depth : Nat} {f : FuncId} {args : List A} {top : Nat} {t : Tb} (h : check Pm sums fuel depth f args top t = true) : Holds env Pm f args t :=
  fun hw hf vs ha W => check_sound hm hs hse h hw hf ha W
/-- a question that is put first: by cases -/
theorem split_holds {env : Nat → Sc} {Pm : Program} {f : FuncId} {args : List A} {t : Tb} (x : Nd) (hx : okB x t.n = true) (h1 : Holds env Pm f args (heard (intern x t).2 (intern x t).1 true)) (h2 : Holds env Pm f args (heard (intern x t).2 (intern x t).1 false)) : Holds env Pm f args t := by
  intro hw hf vs ha W
  have e1 := intern_ext (env := env) (x := x) hw
  have hi : (intern x t).1 < (intern x t).2.n := (intern_spec (env := env) hw (okB_ok hx)).2.1
  have e2 := e1.trans (heard_ext e1.wf hi)
  have ha' := ha.mono fun _ _ => Ar.mono (e2.up (fun _ => 0) (fun _ => False))
  have hf' := e2.fk hf
  have hw' := e2.wf
  cases hb : (den env (intern x t).2.l (intern x t).1).bv <;> rw [hb] at ha' hf' hw'
  · exact h2 hw' hf' vs ha' W
  · exact h1 hw' hf' vs ha' W

/-! the arguments of a law -/
def vars : Nat → List Nd
  | 0 => []
  | n + 1 => ⟨0, n, 0⟩ :: vars n
theorem vars_length : ∀ n, (vars n).length = n
  | 0 => rfl
  | n + 1 => by simp [vars, vars_length n]
theorem vars_wf (n : Nat) : WF ⟨n, vars n, [], []⟩ := by
  refine ⟨(vars_length n).symm, ?_⟩
  show wfl (vars n)
  induction n with
  | zero => trivial
  | succ n ih => exact ⟨.inl (by show (0 : Nat) < 3; omega), ih⟩
theorem vars_den (env : Nat → Sc) : ∀ (n i : Nat), i < n → den env (vars n) i = env i
  | 0, i, h => by omega
  | n + 1, i, h => by
    by_cases hi : i = n
    · subst hi
      have := den_at (env := env) (x := ⟨0, i, 0⟩) (l := vars i)
      rw [vars_length] at this
      exact this
    · show den env (⟨0, n, 0⟩ :: vars n) i = _
      rw [den_lt (by rw [vars_length]; omega)]
      exact vars_den env n i (by omega)
theorem var_f32 {env : Nat → Sc} {n i x : Nat} {ms : Nat → Nat} {K : Nat → Prop} (h : Nat.blt i n = true) (he : env i = .f (kcv .f32 x)) : Cr (mkE env ⟨n, vars n, [], []⟩ ms K) (.f32 i) (.float .f32 x) := by
  have hi : i < n := Nat.le_of_ble_eq_true h
  refine ⟨hi, x, rfl, ?_⟩
  show _ = (den env (vars n) i).fv
  rw [vars_den env n i hi, he]; rfl
theorem var_int {env : Nat → Sc} {n i : Nat} {x : Int} {k : IntKind} {ms : Nat → Nat} {K : Nat → Prop} (h : Nat.blt i n = true) (he : env i = .i x) : Cr (mkE env ⟨n, vars n, [], []⟩ ms K) (.num k i) (.int k x) := by
  have hi : i < n := Nat.le_of_ble_eq_true h
  refine ⟨hi, ?_⟩
  show _ = Value.int k (den env (vars n) i).iv
  rw [vars_den env n i hi, he]; rfl
theorem var_bool {env : Nat → Sc} {n i : Nat} {x : Bool} {ms : Nat → Nat} {K : Nat → Prop} (h : Nat.blt i n = true) (he : env i = .b x) : Cr (mkE env ⟨n, vars n, [], []⟩ ms K) (.bit i true) (.bool x) := by
  have hi : i < n := Nat.le_of_ble_eq_true h
  refine ⟨hi, ?_⟩
  show _ = Value.bool ((den env (vars n) i).bv == true)
  rw [vars_den env n i hi, he]
  cases x <;> rfl
def envOf (l : List Sc) (i : Nat) : Sc := l.getD i (.i 0)
end
end Go.Sx
