/- A symbolic evaluator of closed terms: panics. -/
import Derived.Test.YtljpggeogiabgaaSxI
namespace Go.Sx
open Go Go.RowKit Go.Flo Go.Mem Go.Proofs.Ytljpggeogiabgaa
set_option linter.unusedVariables false
set_option linter.unusedSimpArgs false

/-- no way ends in a panic -/
def NoPan {α : Type} (r : Res α) : Prop := ∀ env, r.selP env = none
theorem NoPan.ok {α : Type} (a : α) : NoPan (.ok a : Res α) := fun _ => rfl
theorem NoPan.bad {α : Type} (n : Nat) : NoPan (.bad n : Res α) := fun _ => rfl
theorem NoPan.ask {α : Type} {i : Nat} {t : Tb} {k : Bool → Res α} (h : ∀ b, NoPan (k b)) : NoPan (.ask i t k) := fun env => h _ env
theorem NoPan.of {α : Type} (n : Nat) (o : Option α) : NoPan (ofOpt n o) := by cases o <;> exact fun _ => rfl
theorem NoPan.bind {α β : Type} {r : Res α} {k : α → Res β} (h : NoPan r) (g : ∀ a, NoPan (k a)) : NoPan (r.bind k) := fun env => by
  cases hq : (r.bind k).selP env with
  | none => rfl
  | some q =>
    rcases Res.bind_pan hq with h1 | ⟨a, _, h1⟩
    · rw [h env] at h1; cases h1
    · rw [g a env] at h1; cases h1
theorem NoPan.cond {α : Type} {b : Bool} {x y : Res α} (h : NoPan x) (g : NoPan y) : NoPan (bif b then x else y) := by cases b; exact g; exact h
theorem NoPan.out {env : Nat → Sc} {α β : Type} {r : Res α} {k : α → Res β} {q : C × Tb} (h : NoPan r) (g : (r.bind k).selP env = some q) : ∃ a, r.sel env = some a ∧ (k a).selP env = some q := by
  rcases Res.bind_pan g with h1 | h1
  · rw [h env] at h1; cases h1
  · exact h1
theorem NoPan.truth (t : Tb) (c : C) : NoPan (truth t c) := by
  unfold Sx.truth
  split
  · exact .ok _
  · split
    · exact .ok _
    · exact .cond (.ask fun b => .ok _) (.bad _)
  · exact .bad _
theorem NoPan.settled (x y : C) (t : Tb) : NoPan (settled x y t) := by
  unfold Sx.settled
  split
  · exact .cond (.ok _) (.bind (.truth _ _) fun _ => .ok _)
  · exact .ok _
theorem NoPan.eqNums (Pm : Program) (el : TypeId) (cs ds : List C) : ∀ (js : List Nat) (t : Tb), NoPan (eqNums Pm el cs ds js t)
  | [], t => .ok _
  | j :: js, t => by
    unfold Sx.eqNums
    split
    · split
      · exact .bind (.truth _ _) fun r => .cond (NoPan.eqNums Pm el cs ds js _) (.ok _)
      · exact .bad _
    · exact .bad _
theorem NoPan.newBlock (nid top : Nat) (cs : List C) (t : Tb) : NoPan (newBlock nid top cs t) := by unfold Sx.newBlock; exact .cond (.ok _) (.bad _)
theorem NoPan.okV (x : A × Tb) (nid : Nat) : NoPan (okV x nid) := .ok _
theorem NoPan.wants (X : Ctx) (ops : Array Oper) (o : Oper) (s : S) : NoPan (wants X ops o s) := by
  unfold Sx.wants
  split
  · exact .ok _
  · split
    · exact .bad _
    · split
      · exact .bind (.truth _ _) fun _ => .ok _
      · exact .ok _
      · exact .bad _
theorem NoPan.storeAt (X : Ctx) (own : Mm) (tm : List A) (t : Tb) (ty : TypeId) (x y : Operand) : NoPan (storeAt X own tm t ty x y) := by
  unfold Sx.storeAt
  refine .bind (.of _ _) fun _ => .bind (.of _ _) fun _ => ?_
  split
  · split
    · exact .cond (.ok _) (.bad _)
    · exact .bad _
  · exact .bad _
theorem NoPan.assertNo (X : Ctx) (t : Tb) (nid : Nat) (ty : TypeId) (b : Bool) : NoPan (assertNo X t nid ty b) := by
  unfold Sx.assertNo
  refine .cond ?_ (.bad _)
  split
  · exact .bind (.of _ _) fun _ => .ok _
  · exact .bad _
set_option maxHeartbeats 1000000 in
theorem act_nopan {X : Ctx} {M : Mm} {tm : List A} {t : Tb} {nid top : Nat} {o : Oper} (hc : ∀ c, o.op ≠ .call c) (hp : ∀ x, o.op ≠ .panic x) : NoPan (act X M tm t nid top o) := by
  unfold act
  split
  all_goals first
    | (rename_i h; exact absurd h (hc _))
    | (rename_i h; exact absurd h (hp _))
    | unfold actMove | unfold actAssign | unfold actPick | unfold actAlloc | unfold actBox | unfold actLoad | unfold actNilCheck | unfold actFieldAddr | unfold actIndexAddr | unfold actField | unfold actIndex | unfold actBuild | unfold actEqAgg actBinOp | unfold actUnOp | unfold actNeg | unfold actBuildSlice | unfold actConvert | unfold actExtract | unfold actMakeFunc | unfold actIface | unfold actAssert | unfold actSlice | unfold actToArr | skip
  all_goals repeat' (first
    | with_reducible exact NoPan.ok _ | with_reducible exact NoPan.bad _ | with_reducible exact NoPan.of _ _ | with_reducible exact NoPan.truth _ _ | with_reducible exact NoPan.settled _ _ _ | with_reducible exact NoPan.eqNums _ _ _ _ _ _ | with_reducible exact NoPan.newBlock _ _ _ _ | with_reducible exact NoPan.okV _ _ | with_reducible exact NoPan.assertNo _ _ _ _ _
    | (with_reducible refine NoPan.cond ?_ ?_) | (with_reducible refine NoPan.bind ?_ fun _ => ?_) | split)

/-- what a panic leaves -/
structure Pn (env : Nat → Sc) (t : Tb) (W : World) (c : C) (t' : Tb) (v : Value) (W' : World) : Prop where
  ext : Ext env t t'
  val : ∀ ms K, Cr (mkE env t' ms K) c v
  below : Below W.heap.size W W'
theorem Pn.up {env : Nat → Sc} {t0 t t' : Tb} {w0 W W' : World} {c : C} {v : Value} (e : Ext env t0 t) (hb : Below w0.heap.size w0 W) (h : Pn env t W c t' v W') : Pn env t0 w0 c t' v W' := ⟨e.trans h.ext, h.val, below_step h.below hb⟩
def CallPan (env : Nat → Sc) (X : Ctx) : Prop := ∀ f args M t nid top c t', (X.call f args M t nid top).selP env = some (c, t') → ∀ ms K vs W, WF t → ReadOk (mkE env t ms K) W M → F2 (Ar (mkE env t ms K)) args vs → (∀ i, nid ≤ i → i < top → ¬ K i) → FactsOk env t.fs t →
  Calls X.P f vs.toArray W fun e W' => ∃ v, e = .panicked [{ v, recovered := false }] ∧ Pn env t W c t' v W'

section
variable {env : Nat → Sc} {X : Ctx}
theorem act_pan (hP : CallPan env X) {M : Mm} {tm : List A} {t : Tb} {nid top : Nat} {o : Oper} {c : C} {t' : Tb} {ms : Nat → Nat} {K : Nat → Prop} {a : Act} {W : World} (h : (act X M tm t nid top o).selP env = some (c, t')) (hp : Pre env X M tm t nid top ms K a W)
    {Kont : Act → World → Prop} {Q : Exit → Act → World → Prop} (hQ : ∀ v W', Pn env t W c t' v W' → Q (.panic [{ v, recovered := false }]) a W') : Oper.wp X.P o a W Kont Q := by
  obtain ⟨hw, hrd, htm, hfr, hfs⟩ := hp
  by_cases hc : ∃ c, o.op = .call c
  · obtain ⟨cl, ho⟩ := hc
    unfold act at h
    simp only [ho] at h
    unfold actCall at h
    split at h
    · rename_i x hc
      obtain ⟨⟨x1, t1⟩, h1, h⟩ := (NoPan.of _ _).out h
      obtain ⟨e1, r1⟩ := cell1_sound (ofOpt_ok h1) hw htm
      simp only at h
      split at h
      · rename_i f caps
        cases hb : Inv.bodied X.P f <;> rw [hb] at h <;> simp only [cond_true, cond_false] at h
        · cases h
        · obtain ⟨⟨l, t2⟩, h2, h⟩ := (NoPan.of _ _).out h
          simp only at h
          obtain ⟨e2, r2⟩ := opnds_sound (ofOpt_ok h2) e1.wf (tm_up e1 htm)
          obtain ⟨hcap, hx⟩ := r1
          have e12 := e1.trans e2
          have hargs : F2 (Ar (mkE env t2 ms K)) (l ++ caps.map fun id => A.p (.one (.ptr id 0))) (cl.args.toList.map a.eval ++ caps.map fun id => Value.pointer (some ⟨ms id, 0, none⟩)) := r2.append (caps_args (e := mkE env t2 ms K) hcap)
          have hcall := hP f _ M t2 nid top c t' h ms K _ W e2.wf (hrd.mono (e12.up ms K)) hargs hfr (e12.fk hfs)
          have hrun : (execOp a.eval o).run X.P W = .ok (.enter f (cl.args.toList.map a.eval ++ caps.map fun id => Value.pointer (some ⟨ms id, 0, none⟩)).toArray) W := by
            unfold execOp
            simp only [ho, resolve, hc, hx, Deferred.ofValue, Sem.run_bind, Sem.run_pure, Result.andThen_ok, invoke]
            rw [Inv.run_callFunc_body hb]
            congr 2
            apply Array.ext'
            simp [mkE]
          unfold Oper.wp; rw [hrun, Oper.upon_enter]
          refine Calls.mono hcall fun e W' ⟨v', he, hd⟩ => ?_
          subst he
          exact hQ _ _ ⟨e12.trans hd.ext, hd.val, hd.below⟩
      · cases h
    · rename_i x name hc
      unfold actInvoke at h
      obtain ⟨⟨x1, t1⟩, h1, h⟩ := (NoPan.of _ _).out h
      obtain ⟨e1, r1⟩ := cell1_sound (ofOpt_ok h1) hw htm
      simp only at h
      split at h
      · rename_i ty ag bs
        split at h
        · rename_i f p hf hp
          cases hb : Inv.bodied X.P f <;> rw [hb] at h <;> simp only [cond_true, cond_false] at h
          · cases h
          · obtain ⟨⟨l, t2⟩, h2, h⟩ := (NoPan.of _ _).out h
            simp only at h
            obtain ⟨e2, r2⟩ := opnds_sound (ofOpt_ok h2) e1.wf (tm_up e1 htm)
            obtain ⟨vs, hx, hbs⟩ := r1
            have e12 := e1.trans e2
            have hrecv : Ar (mkE env t2 ms K) (.p p) (inner ag vs) := (upP_ok hp hbs).mono (e2.up ms K)
            have hargs : F2 (Ar (mkE env t2 ms K)) (.p p :: l) (inner ag vs :: cl.args.toList.map a.eval) := .cons hrecv r2
            have hcall := hP f _ M t2 nid top c t' h ms K _ W e2.wf (hrd.mono (e12.up ms K)) hargs hfr (e12.fk hfs)
            have hrun : (execOp a.eval o).run X.P W = .ok (.enter f (inner ag vs :: cl.args.toList.map a.eval).toArray) W := by
              unfold execOp
              simp only [ho, resolve, hc, hx, Sem.run_bind, Sem.run_pure, Result.andThen_ok]
              rw [invoke_method, callMethod_run hf]
              rw [Inv.run_callFunc_body hb]
              congr 2
              apply Array.ext'
              simp
            unfold Oper.wp; rw [hrun, Oper.upon_enter]
            refine Calls.mono hcall fun e W' ⟨v', he, hd⟩ => ?_
            subst he
            exact hQ _ _ ⟨e12.trans hd.ext, hd.val, hd.below⟩
        · cases h
      · cases h
    · have hn : NoPan (actLen X M tm t nid top cl) := by
        unfold actLen
        split
        · split
          · refine .bind (.of _ _) fun _ => ?_
            split <;> first | exact .ok _ | exact .bad _
          · exact .bad _
        · exact .bad _
      rw [hn env] at h; cases h
    · cases h
  · by_cases hpn : ∃ x, o.op = .panic x
    · obtain ⟨x, ho⟩ := hpn
      unfold act at h
      simp only [ho] at h
      unfold actPanic at h
      obtain ⟨⟨x1, t1⟩, h1, h⟩ := (NoPan.of _ _).out h
      obtain ⟨e1, r1⟩ := cell1_sound (ofOpt_ok h1) hw htm
      simp only at h
      split at h
      · rename_i ty ag bs
        cases hb : C.bare (.ifc ty ag bs) <;> rw [hb] at h <;> simp only [cond_true, cond_false] at h
        · cases h
        · have h' : some (C.ifc ty ag bs, t1) = some (c, t') := h
          cases h'
          have r1' := r1
          obtain ⟨vs, hx, hbs⟩ := r1
          have hx' : a.eval x = .iface ty (inner ag vs) := hx
          unfold Oper.wp execOp
          simp only [ho, hx', Sem.run_bind, run_panic_iface]
          show Q (.panic [{ v := .iface ty (inner ag vs), recovered := false }]) a W
          refine hQ _ _ ⟨e1, fun ms' K' => ?_, Below.refl _ _⟩
          have := bare_cell (ms' := ms') (K' := K') r1' hb
          rw [hx'] at this; exact this
      · cases h
    · have hn := act_nopan (X := X) (M := M) (tm := tm) (t := t) (nid := nid) (top := top) (o := o) (fun c e => hc ⟨c, e⟩) (fun x e => hpn ⟨x, e⟩)
      rw [hn env] at h; cases h

variable {rd : Mm} {lo top : Nat} {ms0 : Nat → Nat} {K0 : Nat → Prop} {t0 : Tb} {w0 : World}
theorem step_pan (hP : CallPan env X) {o : Oper} {s : S} {c : C} {t' : Tb} {a : Act} {W : World} (h : (step X rd top o s).selP env = some (c, t')) (hr : RelX env X rd lo top ms0 K0 t0 w0 s a W)
    {Kont : Act → World → Prop} {Q : Exit → Act → World → Prop} (hQ : ∀ v a' W', a'.defers = [] → Pn env t0 w0 c t' v W' → Q (.panic [{ v, recovered := false }]) a' W') : Oper.wp X.P o a W Kont Q := by
  obtain ⟨ms, K, r, l, hr⟩ := hr
  unfold step at h
  split at h
  · obtain ⟨_, _, h⟩ := (NoPan.storeAt _ _ _ _ _ _ _).out h
    cases h
  · rcases Res.bind_pan h with h | ⟨r', _, h⟩
    · have hf : ∀ i, s.nid ≤ i → i < top → ¬ K i := fun i h1 h2 hk => by
        rcases hr.rng i hk with h | ⟨_, h, _⟩
        · exact hr.fresh i (Nat.le_trans hr.low h1) h2 h
        · omega
      exact act_pan hP h ⟨hr.ext.wf, ⟨l ++ r, hr.own.append hr.rdr, Mem.readAll hr.mem⟩, .of hr.tm, hf, hr.facts⟩ fun v W' hd => hQ _ _ _ hr.df (hd.up hr.ext hr.mem.below)
    · cases h
theorem run_pan (hX : CallOk env X) (hP : CallPan env X) {ops : Array Oper} {Q : Exit → Act → World → Prop} : ∀ {l : List Oper} {s : S} {c : C} {t' : Tb} {a : Act} {W : World}, (run X rd top ops l s).selP env = some (c, t') → RelX env X rd lo top ms0 K0 t0 w0 s a W →
    (∀ v a' W', a'.defers = [] → Pn env t0 w0 c t' v W' → Q (.panic [{ v, recovered := false }]) a' W') → wpList X.P ops Q l a W
  | [], s, c, t', a, W, h, hr, hQ => by cases h
  | o :: l, s, c, t', a, W, h, hr, hQ => by
    unfold run at h
    obtain ⟨⟨b, tb⟩, h1, h⟩ := (NoPan.wants _ _ _ _).out h
    have hb := wants_sound h1 hr
    have hr' : RelX env X rd lo top ms0 K0 t0 w0 { s with t := tb } a W := by
      obtain ⟨ms, K, r, l, hr1⟩ := hr
      exact ext_rel hr1 (wants_ext h1 hr1.ext.wf)
    unfold wpList
    rw [hb]
    cases b <;> simp only [cond_true, cond_false] at h
    · rw [if_neg (by simp)]
      exact run_pan hX hP h (skip_rel hr' _) hQ
    · rw [if_pos rfl]
      rcases Res.bind_pan h with h | ⟨s1, h2, h⟩
      · exact .inl (step_pan hP h hr' hQ)
      · exact .inl (step_sound hX h2 hr' fun a' W' hr' => run_pan hX hP h hr' hQ)

def DrPan (env : Nat → Sc) (X : Ctx) (rd : Mm) (lo top : Nat) (ms0 : Nat → Nat) (K0 : Nat → Prop) (t0 : Tb) (w0 : World) (dr : Array Oper → S → Res S) : Prop :=
  ∀ id ops s c t' a W, (dr ops s).selP env = some (c, t') → RelX env X rd lo top ms0 K0 t0 w0 s a W → ∀ Q : Exit → Act → World → Prop, (∀ v a' W', a'.defers = [] → Pn env t0 w0 c t' v W' → Q (.panic [{ v, recovered := false }]) a' W') → (Code.region id ops true).wp X.P Q a W
variable {dr : Array Oper → S → Res S} {fuel : Nat}
theorem rounds_pan {c : Code} {Q : Exit → Act → World → Prop} {f : S → Res (Ex × S)}
    (hf : ∀ {s s' : S} {ex : Ex} {a : Act} {W : World} {Q : Exit → Act → World → Prop}, (f s).sel env = some (ex, s') → RelX env X rd lo top ms0 K0 t0 w0 s a W → (∀ a' W', RelX env X rd lo top ms0 K0 t0 w0 s' a' W' → Q (exitOf ex) a' W') → c.wp X.P Q a W)
    (hg : ∀ {s : S} {pc : C} {t' : Tb} {a : Act} {W : World} {Q : Exit → Act → World → Prop}, (f s).selP env = some (pc, t') → RelX env X rd lo top ms0 K0 t0 w0 s a W → (∀ v a' W', a'.defers = [] → Pn env t0 w0 pc t' v W' → Q (.panic [{ v, recovered := false }]) a' W') → c.wp X.P Q a W) :
    ∀ (n : Nat) {s : S} {pc : C} {t' : Tb} {a : Act} {W : World}, (rounds f n s).selP env = some (pc, t') → RelX env X rd lo top ms0 K0 t0 w0 s a W → (∀ v a' W', a'.defers = [] → Pn env t0 w0 pc t' v W' → Q (.panic [{ v, recovered := false }]) a' W') → Code.rounds X.P c Q n a W
  | 0, s, pc, t', a, W, h, _, _ => by cases h
  | n + 1, s, pc, t', a, W, h, hr, hQ => by
    unfold rounds at h
    rw [rounds_succ]
    rcases Res.bind_pan h with h | ⟨⟨ex1, s1⟩, h1, h⟩
    · exact hg h hr fun v a' W' h1 h2 => hQ v a' W' h1 h2
    · refine hf h1 hr fun a' W' hr' => ?_
      cases ex1 with
      | normal => exact rounds_pan hf hg n h hr' hQ
      | exit id => cases h
      | ret => cases h
theorem code_pan (hX : CallOk env X) (hP : CallPan env X) (hD : DrOk env X rd lo top ms0 K0 t0 w0 dr) (hDP : DrPan env X rd lo top ms0 K0 t0 w0 dr) : ∀ (c : Code) {s : S} {pc : C} {t' : Tb} {a : Act} {W : World} {Q : Exit → Act → World → Prop}, (code X rd top dr fuel c s).selP env = some (pc, t') → RelX env X rd lo top ms0 K0 t0 w0 s a W →
    (∀ v a' W', a'.defers = [] → Pn env t0 w0 pc t' v W' → Q (.panic [{ v, recovered := false }]) a' W') → c.wp X.P Q a W := by
  intro c
  induction c with
  | skip => intro s pc t' a W Q h hr hQ; cases h
  | label l => intro s pc t' a W Q h hr hQ; cases h
  | exit id => intro s pc t' a W Q h hr hQ; cases h
  | ret => intro s pc t' a W Q h hr hQ; cases h
  | region id ops d =>
    intro s pc t' a W Q h hr hQ
    unfold code at h
    cases d <;> simp only [cond_true, cond_false] at h <;> (rcases Res.bind_pan h with h | ⟨s1, _, h⟩)
    · exact wp_region_list (run_pan hX hP h hr hQ)
    · cases h
    · exact hDP id ops _ _ _ _ _ h hr Q hQ
    · cases h
  | seq x y ihx ihy =>
    intro s pc t' a W Q h hr hQ
    unfold code at h
    rcases Res.bind_pan h with h | ⟨⟨ex1, s1⟩, h1, h⟩
    · exact wp_seq (ihx h hr fun v a' W' g1 g2 => hQ v a' W' g1 g2)
    · refine wp_seq (code_sound hX hD x h1 hr fun a' W' hr' => ?_)
      cases ex1 with
      | normal => exact ihy h hr' hQ
      | exit id => cases h
      | ret => cases h
  | cond c x y ihx ihy =>
    intro s pc t' a W Q h hr hQ
    unfold code at h
    obtain ⟨⟨c1, t1⟩, h1, h⟩ := (NoPan.of _ _).out h
    obtain ⟨⟨v, t2⟩, h2, h⟩ := (NoPan.truth _ _).out h
    have hr0 := hr
    obtain ⟨ms, K, r, l, hr1⟩ := hr0
    obtain ⟨e1, r1⟩ := cell1_sound (ofOpt_ok h1) hr1.ext.wf (.of hr1.tm)
    have hv : a.eval c = .bool v := truth_sound (env := env) (ms := ms) (K := K) h2 e1.wf (e1.fk hr1.facts) r1
    have hr' := ext_rel hr1 (e1.trans (truth_ext h2 e1.wf))
    cases v <;> simp only [cond_true, cond_false] at h
    · exact wp_cond hv (ihy h hr' hQ)
    · exact wp_cond hv (ihx h hr' hQ)
  | block id x ih =>
    intro s pc t' a W Q h hr hQ
    unfold code at h
    rcases Res.bind_pan h with h | ⟨⟨ex1, s1⟩, h1, h⟩
    · exact wp_block (ih h hr fun v a' W' g1 g2 => hQ v a' W' g1 g2)
    · cases ex1 <;> cases h
  | loop x ih =>
    intro s pc t' a W Q h hr hQ
    unfold code at h
    exact wp_loop_rounds fuel (rounds_pan (c := x) (fun h1 hr1 hQ1 => code_sound hX hD x h1 hr1 hQ1) (fun h1 hr1 hQ1 => ih h1 hr1 hQ1) fuel h hr hQ)
  | rangeFunc f ps x y _ _ => intro s pc t' a W Q h hr hQ; unfold code at h; cases h
  | scope x _ => intro s pc t' a W Q h hr hQ; unfold code at h; cases h
  | goto l => intro s pc t' a W Q h hr hQ; unfold code at h; cases h
  | refuse w => intro s pc t' a W Q h hr hQ; unfold code at h; cases h
end
end Go.Sx
