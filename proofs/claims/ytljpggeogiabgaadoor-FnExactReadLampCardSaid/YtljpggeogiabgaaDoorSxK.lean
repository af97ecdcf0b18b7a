/- A symbolic evaluator of closed terms: two functions that answer alike. -/
import Derived.Test.YtljpggeogiabgaaDoorSxJ
namespace Go.Sx
open Go Go.RowKit Go.Flo Go.Mem Go.Proofs.YtljpggeogiabgaaDoor
set_option linter.unusedVariables false
noncomputable section
set_option linter.unusedSimpArgs false
/-- what is known of a bit is put in its place -/
def normC (fs : Facts) : C → C
  | .bit i p => match known fs i with | some b => .bool (b == p) | none => .bit i p
  | c => c
def normP (fs : Facts) : P → P
  | .one c => .one (normC fs c)
  | .agg cs => .agg (cs.map (normC fs))
def normA (fs : Facts) : A → A
  | .p x => .p (normP fs x)
  | .tup l => .tup (l.map (normP fs))
  | .junk => .junk
theorem normC_ok {env : Nat → Sc} {t : Tb} {ms : Nat → Nat} {K : Nat → Prop} {c : C} {v : Value} (hf : FactsOk env t.fs t) (h : Cr (mkE env t ms K) c v) : Cr (mkE env t ms K) (normC t.fs c) v := by
  cases c with
  | bit i p =>
    cases hk : known t.fs i with
    | some b =>
      have := known_sound (env := env) hk hf
      obtain ⟨_, h2⟩ := h
      simp only [normC, hk]
      show v = .bool (b == p)
      rw [h2]
      show Value.bool ((den env t.l i).bv == p) = _
      rw [this]
    | none => simp only [normC, hk]; exact h
  | _ => exact h
theorem normCs_ok {env : Nat → Sc} {t : Tb} {ms : Nat → Nat} {K : Nat → Prop} (hf : FactsOk env t.fs t) : ∀ {cs : List C} {vs : List Value}, F2 (Cr (mkE env t ms K)) cs vs → F2 (Cr (mkE env t ms K)) (cs.map (normC t.fs)) vs
  | _, _, .nil => .nil
  | _, _, .cons a b => .cons (normC_ok hf a) (normCs_ok hf b)
theorem normP_ok {env : Nat → Sc} {t : Tb} {ms : Nat → Nat} {K : Nat → Prop} {c : Sx.P} {v : Value} (hf : FactsOk env t.fs t) (h : Pr (mkE env t ms K) c v) : Pr (mkE env t ms K) (normP t.fs c) v := by
  cases c with
  | one c => exact normC_ok hf h
  | agg cs => obtain ⟨vs, h1, h2⟩ := h; exact ⟨vs, h1, normCs_ok hf h2⟩
theorem normPs_ok {env : Nat → Sc} {t : Tb} {ms : Nat → Nat} {K : Nat → Prop} (hf : FactsOk env t.fs t) : ∀ {cs : List Sx.P} {vs : List Value}, F2 (Pr (mkE env t ms K)) cs vs → F2 (Pr (mkE env t ms K)) (cs.map (normP t.fs)) vs
  | _, _, .nil => .nil
  | _, _, .cons a b => .cons (normP_ok hf a) (normPs_ok hf b)
theorem normA_ok {env : Nat → Sc} {t : Tb} {ms : Nat → Nat} {K : Nat → Prop} {c : A} {v : Value} (hf : FactsOk env t.fs t) (h : Ar (mkE env t ms K) c v) : Ar (mkE env t ms K) (normA t.fs c) v := by
  cases c with
  | p x => exact normP_ok hf h
  | tup l => obtain ⟨vs, h1, h2⟩ := h; exact ⟨vs, h1, normPs_ok hf h2⟩
  | junk => trivial
def sameC : C → C → Bool
  | .f32 i, .f32 j => Nat.beq i j
  | .f64 i, .f64 j => Nat.beq i j
  | .bit i p, .bit j q => bif Nat.beq i j then (bif p then q else !q) else false
  | .num k i, .num l j => bif Nat.beq i j then decide (k = l) else false
  | .bool b, .bool c => bif b then c else !c
  | .int k n, .int l m => bif decide (k = l) then decide (n = m) else false
  | _, _ => false
def sameCs : List C → List C → Bool
  | [], [] => true
  | a :: l, b :: m => bif sameC a b then sameCs l m else false
  | _, _ => false
def sameP : P → P → Bool
  | .one c, .one d => sameC c d
  | .agg cs, .agg ds => sameCs cs ds
  | _, _ => false
def samePs : List P → List P → Bool
  | [], [] => true
  | a :: l, b :: m => bif sameP a b then samePs l m else false
  | _, _ => false
def sameA : A → A → Bool
  | .p x, .p y => sameP x y
  | .tup l, .tup m => samePs l m
  | _, _ => false
theorem cond_eq_true {a b : Bool} (h : (bif a then b else false) = true) : a = true ∧ b = true := by cases a <;> simp_all
theorem sameC_eq {c d : C} (h : sameC c d = true) : c = d ∧ c.bare = true := by
  cases c <;> cases d <;> simp only [sameC] at h <;> (try cases h)
  · exact ⟨by rw [beq_eq h], rfl⟩
  · exact ⟨by rw [beq_eq h], rfl⟩
  · obtain ⟨h1, h2⟩ := cond_eq_true h
    rename_i i p j q
    exact ⟨by rw [beq_eq h1]; cases p <;> cases q <;> simp_all, rfl⟩
  · obtain ⟨h1, h2⟩ := cond_eq_true h
    exact ⟨by rw [beq_eq h1, of_decide_eq_true h2], rfl⟩
  · rename_i p q
    exact ⟨by cases p <;> cases q <;> simp_all, rfl⟩
  · obtain ⟨h1, h2⟩ := cond_eq_true h
    exact ⟨by rw [of_decide_eq_true h1, of_decide_eq_true h2], rfl⟩
theorem sameCs_eq : ∀ {l m : List C}, sameCs l m = true → l = m ∧ l.all C.bare = true
  | [], [], _ => ⟨rfl, rfl⟩
  | a :: l, b :: m, h => by
    obtain ⟨h1, h2⟩ := cond_eq_true h
    obtain ⟨e1, e2⟩ := sameC_eq h1
    obtain ⟨e3, e4⟩ := sameCs_eq h2
    exact ⟨by rw [e1, e3], by simp [e2, e4]⟩
  | [], _ :: _, h => by cases h
  | _ :: _, [], h => by cases h
theorem sameP_eq {c d : Sx.P} (h : sameP c d = true) : c = d ∧ c.bare = true := by
  cases c <;> cases d <;> simp only [sameP] at h <;> (try cases h)
  · obtain ⟨e1, e2⟩ := sameC_eq h; exact ⟨by rw [e1], e2⟩
  · obtain ⟨e1, e2⟩ := sameCs_eq h; exact ⟨by rw [e1], e2⟩
theorem samePs_eq : ∀ {l m : List Sx.P}, samePs l m = true → l = m ∧ l.all P.bare = true
  | [], [], _ => ⟨rfl, rfl⟩
  | a :: l, b :: m, h => by
    obtain ⟨h1, h2⟩ := cond_eq_true h
    obtain ⟨e1, e2⟩ := sameP_eq h1
    obtain ⟨e3, e4⟩ := samePs_eq h2
    exact ⟨by rw [e1, e3], by simp [e2, e4]⟩
  | [], _ :: _, h => by cases h
  | _ :: _, [], h => by cases h
theorem sameA_eq {c d : A} (h : sameA c d = true) : c = d ∧ c.bare = true := by
  cases c <;> cases d <;> simp only [sameA] at h <;> (try cases h)
  · obtain ⟨e1, e2⟩ := sameP_eq h; exact ⟨by rw [e1], e2⟩
  · obtain ⟨e1, e2⟩ := samePs_eq h; exact ⟨by rw [e1], e2⟩
/-- both functions, one behind the other, over one table: all ways of both end alike, and as 'p' says -/
def both (Pm : Program) (sums : List (FuncId × SumF)) (fuel depth : Nat) (f : FuncId) (args : List A) (M : Mm) (nid : Nat) (f2 : FuncId) (args2 : List A) (M2 : Mm) (nid2 : Nat) (top : Nat) (t : Tb) (p : A → Bool) : Bool :=
  (callee Pm (sumsOf sums) drawn fuel depth f args M t nid top).all fun r =>
    (callee Pm (sumsOf sums) drawn fuel depth f2 args2 M2 r.2.2.2 nid2 top).all fun q =>
      bif sameA (normA q.2.2.2.fs r.1) (normA q.2.2.2.fs q.1) then p (normA q.2.2.2.fs q.1) else false
/-- one function alone -/
def alone (Pm : Program) (sums : List (FuncId × SumF)) (fuel depth : Nat) (f : FuncId) (args : List A) (M : Mm) (nid : Nat) (top : Nat) (t : Tb) (p : A → Bool) : Bool :=
  (callee Pm (sumsOf sums) drawn fuel depth f args M t nid top).all fun q => bif sameA (normA q.2.2.2.fs q.1) (normA q.2.2.2.fs q.1) then p (normA q.2.2.2.fs q.1) else false
abbrev e0 (env : Nat → Sc) (t : Tb) : E := mkE env t (fun _ => 0) (fun _ => False)
/-- what a function answers, by a table -/
def Answers (env : Nat → Sc) (Pm : Program) (f : FuncId) (args : List A) (M : Mm) (nid top : Nat) (t : Tb) (a : A) (t' : Tb) : Prop :=
  ∀ (ms : Nat → Nat) (K : Nat → Prop) (vs : List Value) (W : World), ReadOk (mkE env t ms K) W M → F2 (Ar (mkE env t ms K)) args vs → (∀ i, nid ≤ i → i < top → ¬ K i) →
    Calls Pm f vs.toArray W fun e W' => ∃ v, e = .returned v ∧ Ar (e0 env t') a v ∧ Below W.heap.size W W'
theorem answers_of {env : Nat → Sc} {Pm : Program} {sums : List (FuncId × SumF)} (hm : Pm.follows .mixedOrders = true) (hs : ∀ x ∈ sums, SumOk1 env Pm x.1 x.2) (hse : ∀ x ∈ sums, SumExt1 env x.2) {fuel depth : Nat} {f : FuncId} {args : List A} {M : Mm} {nid top : Nat} {t : Tb} {r : A × Mm × Nat × Tb}
    (hr : (callee Pm (sumsOf sums) drawn fuel depth f args M t nid top).sel env = some r) (hw : WF t) (hf : FactsOk env t.fs t) {t' : Tb} (he : Ext env r.2.2.2 t') (hf' : FactsOk env t'.fs t') (hb : (normA t'.fs r.1).bare = true) : Answers env Pm f args M nid top t (normA t'.fs r.1) t' := by
  intro ms K vs W hrd ha hfr
  have hc := callee_sound (fuel := fuel) (sumsOf_ok hs) (sumsOf_ext hse) (drawn_sound (env := env) hm) drawn_ext depth
  refine (hc f args M t nid top r hr ms K vs W hw hrd ha hfr hf).mono fun e W' ⟨v', he', hd⟩ => ?_
  obtain ⟨ms', K', nl, e1, _, _, _, hv, hmem, _⟩ := hd
  exact ⟨v', he', bare_all (normA_ok hf' (hv.mono (he.up ms' K'))) hb, hmem.below⟩
theorem sel_ext {env : Nat → Sc} {Pm : Program} {sums : List (FuncId × SumF)} (hse : ∀ x ∈ sums, SumExt1 env x.2) {fuel depth : Nat} {f : FuncId} {args : List A} {M : Mm} {nid top : Nat} {t : Tb} {r : A × Mm × Nat × Tb}
    (hr : (callee Pm (sumsOf sums) drawn fuel depth f args M t nid top).sel env = some r) (hw : WF t) : Ext env t r.2.2.2 := by
  exact callee_ext (Pm := Pm) (fuel := fuel) (sumsOf_ext hse) drawn_ext depth f args M t nid top r hr hw
theorem both_sound {env : Nat → Sc} {Pm : Program} {sums : List (FuncId × SumF)} (hm : Pm.follows .mixedOrders = true) (hs : ∀ x ∈ sums, SumOk1 env Pm x.1 x.2) (hse : ∀ x ∈ sums, SumExt1 env x.2) {fuel depth : Nat} {f : FuncId} {args : List A} {M : Mm} {nid : Nat} {f2 : FuncId} {args2 : List A} {M2 : Mm} {nid2 top : Nat} {t : Tb} {p : A → Bool}
    (h : both Pm sums fuel depth f args M nid f2 args2 M2 nid2 top t p = true) (hw : WF t) (hf : FactsOk env t.fs t) :
    ∃ a t', Ext env t t' ∧ p a = true ∧ Answers env Pm f args M nid top t a t' ∧ Answers env Pm f2 args2 M2 nid2 top t a t' := by
  unfold both at h
  obtain ⟨r, hr, hp⟩ := all_sel (env := env) h
  obtain ⟨q, hq, hp⟩ := all_sel (env := env) hp
  obtain ⟨h1, h2⟩ := cond_eq_true hp
  obtain ⟨e1, e2⟩ := sameA_eq h1
  have x1 := sel_ext hse hr hw
  have x2 := sel_ext hse hq x1.wf
  have f1 := x1.fk hf
  have f2' := x2.fk f1
  refine ⟨normA q.2.2.2.fs q.1, q.2.2.2, x1.trans x2, h2, ?_, ?_⟩
  · rw [← e1]
    exact answers_of hm hs hse hr hw hf x2 f2' e2
  · intro ms K vs W hrd ha hfr
    exact answers_of hm hs hse hq x1.wf f1 (Ext.refl x2.wf) f2' (e1 ▸ e2) ms K vs W (hrd.mono (x1.up ms K)) (ha.mono fun _ _ => Ar.mono (x1.up ms K)) hfr
theorem alone_sound {env : Nat → Sc} {Pm : Program} {sums : List (FuncId × SumF)} (hm : Pm.follows .mixedOrders = true) (hs : ∀ x ∈ sums, SumOk1 env Pm x.1 x.2) (hse : ∀ x ∈ sums, SumExt1 env x.2) {fuel depth : Nat} {f : FuncId} {args : List A} {M : Mm} {nid top : Nat} {t : Tb} {p : A → Bool}
    (h : alone Pm sums fuel depth f args M nid top t p = true) (hw : WF t) (hf : FactsOk env t.fs t) :
    ∃ a t', Ext env t t' ∧ p a = true ∧ Answers env Pm f args M nid top t a t' := by
  unfold alone at h
  obtain ⟨q, hq, hp⟩ := all_sel (env := env) h
  obtain ⟨h1, h2⟩ := cond_eq_true hp
  obtain ⟨e1, e2⟩ := sameA_eq h1
  have x2 := sel_ext hse hq hw
  have f2' := x2.fk hf
  exact ⟨normA q.2.2.2.fs q.1, q.2.2.2, x2, h2, answers_of hm hs hse hq hw hf (Ext.refl x2.wf) f2' e2⟩
/-! two functions that answer by true or false -/
def truthA (t : Tb) : A → Res (Bool × Tb)
  | .p (.one c) => truth t c
  | _ => .bad 200
def bothB (Pm : Program) (sums : List (FuncId × SumF)) (fuel depth : Nat) (f : FuncId) (args : List A) (M : Mm) (nid : Nat) (f2 : FuncId) (args2 : List A) (M2 : Mm) (nid2 : Nat) (top : Nat) (t : Tb) : Bool :=
  ((callee Pm (sumsOf sums) drawn fuel depth f args M t nid top).bind fun r => (truthA r.2.2.2 r.1).bind fun b => (callee Pm (sumsOf sums) drawn fuel depth f2 args2 M2 b.2 nid2 top).bind fun q => (truthA q.2.2.2 q.1).bind fun c => .ok (b.1, c.1)).all fun x => bif x.1 then x.2 else !x.2
theorem bool_answers {env : Nat → Sc} {Pm : Program} {sums : List (FuncId × SumF)} (hm : Pm.follows .mixedOrders = true) (hs : ∀ x ∈ sums, SumOk1 env Pm x.1 x.2) (hse : ∀ x ∈ sums, SumExt1 env x.2) {fuel depth : Nat} {f : FuncId} {args : List A} {M : Mm} {nid top : Nat} {t : Tb} {r : A × Mm × Nat × Tb} {b : Bool × Tb}
    (hr : (callee Pm (sumsOf sums) drawn fuel depth f args M t nid top).sel env = some r) (hb : (truthA r.2.2.2 r.1).sel env = some b) (hw : WF t) (hf : FactsOk env t.fs t) :
    ∀ (ms : Nat → Nat) (K : Nat → Prop) (vs : List Value) (W : World), ReadOk (mkE env t ms K) W M → F2 (Ar (mkE env t ms K)) args vs → (∀ i, nid ≤ i → i < top → ¬ K i) → Calls Pm f vs.toArray W (Gives (isB b.1) W) := by
  intro ms K vs W hrd ha hfr
  have hc := callee_sound (fuel := fuel) (sumsOf_ok hs) (sumsOf_ext hse) (drawn_sound (env := env) hm) drawn_ext depth
  refine (hc f args M t nid top r hr ms K vs W hw hrd ha hfr hf).mono fun e W' ⟨v', he', hd⟩ => ?_
  obtain ⟨ms', K', nl, e1, _, _, _, hv, hmem, _⟩ := hd
  refine ⟨v', he', ?_, hmem.below⟩
  unfold truthA at hb
  split at hb
  · rename_i c hc'
    rw [hc'] at hv
    exact truth_sound hb e1.wf (e1.fk hf) hv
  · cases hb
theorem truthA_ext {env : Nat → Sc} {t : Tb} {a : A} {b : Bool × Tb} (h : (truthA t a).sel env = some b) (hw : WF t) : Ext env t b.2 := by
  unfold truthA at h
  split at h
  · exact truth_ext h hw
  · cases h
theorem bothB_sound {env : Nat → Sc} {Pm : Program} {sums : List (FuncId × SumF)} (hm : Pm.follows .mixedOrders = true) (hs : ∀ x ∈ sums, SumOk1 env Pm x.1 x.2) (hse : ∀ x ∈ sums, SumExt1 env x.2) {fuel depth : Nat} {f : FuncId} {args : List A} {M : Mm} {nid : Nat} {f2 : FuncId} {args2 : List A} {M2 : Mm} {nid2 top : Nat} {t : Tb}
    (h : bothB Pm sums fuel depth f args M nid f2 args2 M2 nid2 top t = true) (hw : WF t) (hf : FactsOk env t.fs t) :
    ∃ b, (∀ (ms : Nat → Nat) (K : Nat → Prop) (vs : List Value) (W : World), ReadOk (mkE env t ms K) W M → F2 (Ar (mkE env t ms K)) args vs → (∀ i, nid ≤ i → i < top → ¬ K i) → Calls Pm f vs.toArray W (Gives (isB b) W)) ∧
      (∀ (ms : Nat → Nat) (K : Nat → Prop) (vs : List Value) (W : World), ReadOk (mkE env t ms K) W M2 → F2 (Ar (mkE env t ms K)) args2 vs → (∀ i, nid2 ≤ i → i < top → ¬ K i) → Calls Pm f2 vs.toArray W (Gives (isB b) W)) := by
  unfold bothB at h
  obtain ⟨x, hx, hp⟩ := all_sel (env := env) h
  obtain ⟨r, hr, hx⟩ := Res.bind_ok hx
  obtain ⟨b, hb, hx⟩ := Res.bind_ok hx
  obtain ⟨q, hq, hx⟩ := Res.bind_ok hx
  obtain ⟨c, hc, hx⟩ := Res.bind_ok hx
  cases hx
  have x1 := sel_ext hse hr hw
  have x2 := x1.trans (truthA_ext hb x1.wf)
  have f2' := x2.fk hf
  have e : c.1 = b.1 := by
    revert hp
    cases b.1 <;> cases c.1 <;> simp
  refine ⟨b.1, bool_answers hm hs hse hr hb hw hf, ?_⟩
  intro ms K vs W hrd ha hfr
  rw [← e]
  exact bool_answers hm hs hse hq hc x2.wf f2' ms K vs W (hrd.mono (x2.up ms K)) (ha.mono fun _ _ => Ar.mono (x2.up ms K)) hfr
/-! shapes of answers -/
def shB : A → Bool
  | .p (.one (.bool _)) => true
  | .p (.one (.bit _ _)) => true
  | _ => false
/-- an answer that is true or false -/
theorem shB_eq {E : E} {a : A} (h : shB a = true) : ∃ b, ∀ v, Ar E a v → v = .bool b := by
  unfold shB at h
  split at h
  · rename_i b; exact ⟨b, fun v hv => hv⟩
  · rename_i i q; exact ⟨(E.D i).bv == q, fun v hv => hv.2⟩
  · cases h
/-- an answer that is a number -/
def shF : A → Bool
  | .p (.one (.f32 _)) => true
  | _ => false
theorem shF_eq {E : E} {a : A} (h : shF a = true) : ∃ o, ∀ v, Ar E a v → ∃ r, v = .float .f32 r ∧ kcv .f32 r = o := by
  unfold shF at h
  split at h
  · rename_i i; exact ⟨(E.D i).fv, fun v hv => hv.2⟩
  · cases h
end
end Go.Sx
