/- A symbolic evaluator of closed terms: functions that run a function value and answer a code where it panics. -/
import Derived.Test.YtljpggeogiabgaaSxQ
namespace Go.Sx
open Go Go.RowKit Go.Flo Go.Mem Go.Proofs.Ytljpggeogiabgaa
set_option linter.unusedVariables false
set_option linter.unusedSimpArgs false

/-! tables go on up to a panic -/
def CallExtP (env : Nat → Sc) (X : Ctx) : Prop := ∀ f args M t nid top c t', (X.call f args M t nid top).selP env = some (c, t') → WF t → Ext env t t'
section
variable {env : Nat → Sc} {X : Ctx}
theorem act_extP (hX : CallExtP env X) {M : Mm} {tm : List A} {t : Tb} {nid top : Nat} {o : Oper} {c : C} {t' : Tb} (h : (act X M tm t nid top o).selP env = some (c, t')) (hw : WF t) : Ext env t t' := by
  by_cases hc : ∃ c, o.op = .call c
  · obtain ⟨cl, ho⟩ := hc
    unfold act at h
    simp only [ho] at h
    unfold actCall at h
    split at h
    · obtain ⟨⟨x1, t1⟩, h1, h⟩ := (NoPan.of _ _).out h
      have e1 := cell1_ext (env := env) (ofOpt_ok h1) hw
      simp only at h
      split at h
      · rename_i f caps
        cases hb : Inv.bodied X.P f <;> rw [hb] at h <;> simp only [cond_true, cond_false] at h
        · cases h
        · obtain ⟨⟨l, t2⟩, h2, h⟩ := (NoPan.of _ _).out h
          have e2 := e1.trans (opnds_ext (env := env) (ofOpt_ok h2) e1.wf)
          exact e2.trans (hX _ _ _ _ _ _ _ _ h e2.wf)
      · cases h
    · unfold actInvoke at h
      obtain ⟨⟨x1, t1⟩, h1, h⟩ := (NoPan.of _ _).out h
      have e1 := cell1_ext (env := env) (ofOpt_ok h1) hw
      simp only at h
      split at h
      · split at h
        · rename_i f p hf hp
          cases hb : Inv.bodied X.P f <;> rw [hb] at h <;> simp only [cond_true, cond_false] at h
          · cases h
          · obtain ⟨⟨l, t2⟩, h2, h⟩ := (NoPan.of _ _).out h
            have e2 := e1.trans (opnds_ext (env := env) (ofOpt_ok h2) e1.wf)
            exact e2.trans (hX _ _ _ _ _ _ _ _ h e2.wf)
        · cases h
      · cases h
    · have hn : NoPan (actLen X M tm t nid top cl) := by
        unfold actLen
        split
        · split
          · refine .bind (.of _ _) fun _ => ?_
            split <;> first | exact .ok _ | exact .bad _
          · exact .bad _
        · exact .bad _
      rw [hn env] at h; cases h
    · cases h
  · by_cases hpn : ∃ x, o.op = .panic x
    · obtain ⟨x, ho⟩ := hpn
      unfold act at h
      simp only [ho] at h
      unfold actPanic at h
      obtain ⟨⟨x1, t1⟩, h1, h⟩ := (NoPan.of _ _).out h
      have e1 := cell1_ext (env := env) (ofOpt_ok h1) hw
      simp only at h
      split at h
      · generalize C.bare _ = bb at h
        cases bb <;> simp only [cond_true, cond_false] at h
        · cases h
        · have h' := Option.some.inj h
          cases h'; exact e1
      · cases h
    · have hn := act_nopan (X := X) (M := M) (tm := tm) (t := t) (nid := nid) (top := top) (o := o) (fun c e => hc ⟨c, e⟩) (fun x e => hpn ⟨x, e⟩)
      rw [hn env] at h; cases h
theorem step_extP (hP : CallExtP env X) {rd : Mm} {top : Nat} {o : Oper} {s : S} {c : C} {t' : Tb} (h : (step X rd top o s).selP env = some (c, t')) (hw : WF s.t) : Ext env s.t t' := by
  unfold step at h
  split at h
  · obtain ⟨_, _, h⟩ := (NoPan.storeAt _ _ _ _ _ _ _).out h
    cases h
  · rcases Res.bind_pan h with h | ⟨r', _, h⟩
    · exact act_extP hP h hw
    · cases h
theorem run_extP (hX : CallExt env X) (hP : CallExtP env X) {rd : Mm} {top : Nat} {ops : Array Oper} : ∀ {l : List Oper} {s : S} {c : C} {t' : Tb}, (run X rd top ops l s).selP env = some (c, t') → WF s.t → Ext env s.t t'
  | [], s, c, t', h, hw => by cases h
  | o :: l, s, c, t', h, hw => by
    unfold run at h
    obtain ⟨⟨b, t1⟩, h1, h⟩ := (NoPan.wants _ _ _ _).out h
    have e0 := wants_ext h1 hw
    cases b <;> simp only [cond_true, cond_false] at h
    · exact e0.trans (run_extP (s := { s with t := t1, tm := putA s.tm o.dst (.tup []) }) hX hP h e0.wf)
    · rcases Res.bind_pan h with h | ⟨s1, h2, h⟩
      · exact e0.trans (step_extP (s := { s with t := t1 }) hP h e0.wf)
      · have e1 := e0.trans (step_ext (s := { s with t := t1 }) hX h2 e0.wf)
        exact e1.trans (run_extP hX hP h e1.wf)
def DrExtP (env : Nat → Sc) (dr : Array Oper → S → Res S) : Prop := ∀ ops s c t', (dr ops s).selP env = some (c, t') → WF s.t → Ext env s.t t'
theorem rounds_extP {f : S → Res (Ex × S)} (hf : ∀ s r, (f s).sel env = some r → WF s.t → Ext env s.t r.2.t) (hg : ∀ s c t', (f s).selP env = some (c, t') → WF s.t → Ext env s.t t') : ∀ (n : Nat) {s : S} {c : C} {t' : Tb}, (rounds f n s).selP env = some (c, t') → WF s.t → Ext env s.t t'
  | 0, s, c, t', h, _ => by cases h
  | n + 1, s, c, t', h, hw => by
    unfold rounds at h
    rcases Res.bind_pan h with h | ⟨⟨ex, s1⟩, h1, h⟩
    · exact hg _ _ _ h hw
    · have e1 := hf _ _ h1 hw
      cases ex with
      | normal => exact e1.trans (rounds_extP hf hg n h e1.wf)
      | exit id => cases h
      | ret => cases h
theorem code_extP (hX : CallExt env X) (hP : CallExtP env X) {rd : Mm} {top : Nat} {dr : Array Oper → S → Res S} (hD : DrExt env dr) (hDP : DrExtP env dr) {fuel : Nat} : ∀ (cd : Code) {s : S} {c : C} {t' : Tb}, (code X rd top dr fuel cd s).selP env = some (c, t') → WF s.t → Ext env s.t t' := by
  intro cd
  induction cd with
  | skip => intro s c t' h hw; cases h
  | label l => intro s c t' h hw; cases h
  | exit id => intro s c t' h hw; cases h
  | ret => intro s c t' h hw; cases h
  | region id ops d =>
    intro s c t' h hw
    unfold code at h
    cases d <;> simp only [cond_true, cond_false] at h <;> (rcases Res.bind_pan h with h | ⟨s1, _, h⟩)
    · exact run_extP hX hP h hw
    · cases h
    · exact hDP _ _ _ _ h hw
    · cases h
  | seq x y ihx ihy =>
    intro s c t' h hw
    unfold code at h
    rcases Res.bind_pan h with h | ⟨⟨ex1, s1⟩, h1, h⟩
    · exact ihx h hw
    · have e1 := code_ext hX hD x h1 hw
      cases ex1 with
      | normal => exact e1.trans (ihy h e1.wf)
      | exit id => cases h
      | ret => cases h
  | cond cc x y ihx ihy =>
    intro s c t' h hw
    unfold code at h
    obtain ⟨⟨c1, t1⟩, h1, h⟩ := (NoPan.of _ _).out h
    obtain ⟨⟨v, t2⟩, h2, h⟩ := (NoPan.truth _ _).out h
    have e0 := cell1_ext (env := env) (ofOpt_ok h1) hw
    have e1 := e0.trans (truth_ext h2 e0.wf)
    cases v <;> simp only [cond_true, cond_false] at h
    · exact e1.trans (ihy h e1.wf)
    · exact e1.trans (ihx h e1.wf)
  | block id x ih =>
    intro s c t' h hw
    unfold code at h
    rcases Res.bind_pan h with h | ⟨⟨ex1, s1⟩, h1, h⟩
    · exact ih h hw
    · cases ex1 <;> cases h
  | loop x ih =>
    intro s c t' h hw
    unfold code at h
    exact rounds_extP (fun s r h hw => code_ext hX hD x h hw) (fun s c t' h hw => ih h hw) fuel h hw
  | rangeFunc f ps x y _ _ => intro s c t' h; unfold code at h; cases h
  | scope x _ => intro s c t' h; unfold code at h; cases h
  | goto l => intro s c t' h; unfold code at h; cases h
  | refuse w => intro s c t' h; unfold code at h; cases h
theorem item_extP (hX : CallExtP env X) {M : Mm} {ops : Array Oper} {tm : List A} {t : Tb} {nid top : Nat} {o : Oper} {c : C} {t' : Tb} (h : (item X M ops tm t nid top o).selP env = some (c, t')) (hw : WF t) : Ext env t t' := by
  unfold item at h
  obtain ⟨⟨b, tw⟩, hwant, h⟩ := (NoPan.wants _ _ _ _).out h
  have e0 : Ext env t tw := wants_ext hwant hw
  cases b <;> simp only [cond_true, cond_false] at h
  · cases h
  · split at h
    · obtain ⟨_, _, h⟩ := (NoPan.of _ _).out h
      obtain ⟨_, _, h⟩ := (NoPan.of _ _).out h
      split at h
      · split at h
        · rw [NoPan.cond (.ok _) (.bad _) env] at h; cases h
        · cases h
      · cases h
    · rcases Res.bind_pan h with h | ⟨_, _, h⟩
      · exact e0.trans (act_extP hX h e0.wf)
      · cases h
theorem passP_extP (hX : CallExt env X) (hP : CallExtP env X) {ok : Nat → List It → Bool} {M : Nat → List It → Tb → Mm} {ops : Array Oper} {tmC : List A} {base stride : Nat} : ∀ {l : List Oper} {i : Nat} {acc : List It} {t : Tb} {c : C} {t' : Tb}, (passP ok X M ops tmC base stride l i acc t).selP env = some (c, t') → WF t → Ext env t t'
  | [], i, acc, t, c, t', h, hw => by cases h
  | o :: l, i, acc, t, c, t', h, hw => by
    unfold passP at h
    rcases Res.bind_pan h with h | ⟨it, h1, h⟩
    · exact item_extP hP (onPan_selP h).1 hw
    · rw [onPan_sel] at h1
      have e1 := item_ext hX h1 hw
      exact e1.trans (passP_extP hX hP h e1.wf)
theorem drawnP_extP (hX : CallExt env X) (hP : CallExtP env X) (rd : Mm) (top : Nat) : DrExtP env (drawnP X rd top) := by
  intro ops s c t' h hw
  unfold drawnP at h
  simp only at h
  rcases Res.bind_pan h with h | ⟨its, _, h⟩
  · exact passP_extP hX hP h hw
  · split at h
    · rw [NoPan.cond (.ok _) (.bad _) env] at h; cases h
    · cases h
end

/-! functions that catch -/
/-- number, how many numbers are handed back (0: one that stands alone), what is handed back with the code 4 where there is a panic of this type -/
structure Gd where
  f : FuncId
  n : Nat
  z : Value
  ty : TypeId
def gdOf : List Gd → FuncId → Option Gd
  | [], _ => none
  | g :: l, f => bif Nat.beq g.f f then some g else gdOf l f
def allF : List C → Bool
  | [] => true
  | .f32 _ :: l => allF l
  | _ :: _ => false
def shapeG (n : Nat) : A → Option P
  | .p (.one (.f32 i)) => bif Nat.beq n 0 then some (.one (.f32 i)) else none
  | .p (.agg cs) => bif Nat.beq n cs.length && (Nat.blt 0 n && allF cs) then some (.agg cs) else none
  | _ => none
noncomputable def catchG (g : Gd) (nid : Nat) : Res (A × Mm × Nat × Tb) → Res (A × Mm × Nat × Tb)
  | .ok r => match shapeG g.n r.1 with | some x => .ok (.tup [x, .one (.int .i64 0)], [], nid, r.2.2.2) | none => .bad 200
  | .ask i t k => .ask i t fun b => catchG g nid (k b)
  | .bad n => .bad n
  | .pan c t => match c with
    | .ifc ty _ _ => bif Nat.beq ty g.ty then (match partOf t g.z with | some z => .ok (.tup [z.1, .one (.int .i64 4)], [], nid, z.2) | none => .bad 202) else .bad 203
    | _ => .bad 204
theorem catchG_sel {env : Nat → Sc} {g : Gd} {nid : Nat} {q : A × Mm × Nat × Tb} : ∀ {r : Res (A × Mm × Nat × Tb)}, (catchG g nid r).sel env = some q →
    (∃ r0 x, r.sel env = some r0 ∧ shapeG g.n r0.1 = some x ∧ q = (.tup [x, .one (.int .i64 0)], [], nid, r0.2.2.2)) ∨ ∃ ag bs t z, r.selP env = some (.ifc g.ty ag bs, t) ∧ partOf t g.z = some z ∧ q = (.tup [z.1, .one (.int .i64 4)], [], nid, z.2)
  | .ok r, h => by
    unfold catchG at h
    split at h
    · rename_i x hx
      cases h
      exact .inl ⟨r, x, rfl, hx, rfl⟩
    · cases h
  | .ask i t k, h => catchG_sel (r := k (den env t.l i).bv) h
  | .bad n, h => by cases h
  | .pan c t, h => by
    unfold catchG at h
    split at h
    · rename_i ty ag bs
      cases hb : Nat.beq ty g.ty <;> rw [hb] at h <;> simp only [cond_true, cond_false] at h
      · cases h
      · have e := beq_eq hb
        subst e
        split at h
        · rename_i z hz
          cases h
          exact .inr ⟨ag, bs, t, z, rfl, hz, rfl⟩
        · cases h
    · cases h
theorem NoPan.catchG (g : Gd) (nid : Nat) : ∀ (r : Res (A × Mm × Nat × Tb)), NoPan (catchG g nid r)
  | .ok r => by unfold Sx.catchG; split <;> first | exact .ok _ | exact .bad _
  | .ask i t k => .ask fun b => NoPan.catchG g nid (k b)
  | .bad n => .bad n
  | .pan c t => by
    unfold Sx.catchG
    split
    · refine .cond ?_ (.bad _)
      split <;> first | exact .ok _ | exact .bad _
    · exact .bad _
/-- known contracts, of what may be read too -/
abbrev SumsM := Mm → Sums
def SumsOkM (env : Nat → Sc) (Pm : Program) (sums : SumsM) : Prop := ∀ M f args t q r, sums M f args t = some q → q.sel env = some r → ∀ ms K vs W, WF t → FactsOk env t.fs t → ReadOk (mkE env t ms K) W M → F2 (Ar (mkE env t ms K)) args vs → r.1.bare = true →
  Calls Pm f vs.toArray W fun e W' => ∃ v', e = .returned v' ∧ Ext env t r.2 ∧ Ar (mkE env r.2 ms K) r.1 v' ∧ Below W.heap.size W W'
def SumsExtM (env : Nat → Sc) (sums : SumsM) : Prop := ∀ M f args t q r, sums M f args t = some q → q.sel env = some r → WF t → Ext env t r.2
theorem plainM {env : Nat → Sc} {Pm : Program} {sums : Sums} (h : SumsOk env Pm sums) : SumsOkM env Pm fun _ => sums := fun M f args t q r h1 h2 ms K vs W hw hf _ ha hb => h f args t q r h1 h2 ms K vs W hw hf ha hb
theorem plainE {env : Nat → Sc} {sums : Sums} (h : SumsExt env sums) : SumsExtM env fun _ => sums := fun M f args t q r h1 h2 hw => h f args t q r h1 h2 hw
/-- a call's own run, with functions that catch -/
noncomputable def calleeG (Pm : Program) (sums : SumsM) (gs : List Gd) (dr : Ctx → Mm → Nat → Array Oper → S → Res S) (fuel : Nat) : Nat → FuncId → List A → Mm → Tb → Nat → Nat → Res (A × Mm × Nat × Tb)
  | 0, _, _, _, _, _, _ => .bad 100
  | d + 1, f, args, M, t, nid, top => match sums M f args t with
    | some r => (onPan false r).bind fun r => bif r.1.bare then .ok (r.1, [], nid, r.2) else .bad 101
    | none => match gdOf gs f with
      | some g => match args with
        | [.p (.one (.fn cl caps))] => bif Inv.bodied Pm cl then catchG g nid (calleeG Pm sums gs dr fuel d cl (caps.map fun id => .p (.one (.ptr id 0))) M t nid top) else .bad 205
        | _ => .bad 206
      | none => match Pm.funcs[f]? with
        | none => .bad 102
        | some fn => match fn.body with
          | none => .bad 103
          | some c => (code ⟨Pm, calleeG Pm sums gs dr fuel d⟩ M top (dr ⟨Pm, calleeG Pm sums gs dr fuel d⟩ M top) fuel c ⟨t, args ++ List.replicate (fn.ntmps - args.length) .junk, [], nid⟩).bind fun r => match r.1 with
            | .exit _ => .bad 104
            | _ => (ofOpt 105 (fetchAll ⟨Pm, calleeG Pm sums gs dr fuel d⟩ r.2 M fn.results.toList)).bind fun ys => bif (valueOf ys).bare then .ok (valueOf ys, [], nid, r.2.t) else .ok (valueOf ys, r.2.own, r.2.nid, r.2.t)
theorem calleeG_exts {env : Nat → Sc} {Pm : Program} {sums : SumsM} {gs : List Gd} {fuel : Nat} (hS : SumsExtM env sums) : ∀ d, CallExt env ⟨Pm, calleeG Pm sums gs drawnP fuel d⟩ ∧ CallExtP env ⟨Pm, calleeG Pm sums gs drawnP fuel d⟩
  | 0 => ⟨fun f args M t nid top r h => (by cases h), fun f args M t nid top c t' h => (by cases h)⟩
  | d + 1 => by
    obtain ⟨hX, hP⟩ := calleeG_exts (Pm := Pm) (gs := gs) (fuel := fuel) hS d
    refine ⟨fun f args M t nid top r h hw => ?_, fun f args M t nid top c t' h hw => ?_⟩
    · change (calleeG Pm sums gs drawnP fuel (d + 1) f args M t nid top).sel env = _ at h
      unfold calleeG at h
      split at h
      · rename_i r1 hs
        have q := Res.bind_ok h; clear h; obtain ⟨r2, h1, h⟩ := q
        rw [onPan_sel] at h1
        cases hb : r2.1.bare <;> rw [hb] at h <;> simp only [cond_true, cond_false] at h <;> cases h
        exact hS _ _ _ _ _ _ hs h1 hw
      · split at h
        · rename_i g hg
          split at h
          · rename_i cl caps _
            cases hb : Inv.bodied Pm cl <;> rw [hb] at h <;> simp only [cond_true, cond_false] at h
            · cases h
            · rcases catchG_sel h with ⟨r0, x, h1, _, rfl⟩ | ⟨ag, bs, t1, z, h1, hz, rfl⟩
              · exact (hX _ _ _ _ _ _ r0 h1 hw : Ext env t r0.2.2.2)
              · have e1 := hP _ _ _ _ _ _ _ _ h1 hw
                exact e1.trans (partOf_ext hz e1.wf)
          · cases h
        · split at h
          · cases h
          · split at h
            · cases h
            · rename_i c hc
              have q := Res.bind_ok h; clear h; obtain ⟨⟨ex, s'⟩, h1, h⟩ := q
              have e1 := code_ext hX (drawnP_ext _ hX M top) c h1 hw
              have fin : ∀ (ys' : Option (List Sx.P)) r3, Res.sel env ((ofOpt 105 ys').bind fun ys => bif (valueOf ys).bare then Res.ok (valueOf ys, ([] : Mm), nid, s'.t) else .ok (valueOf ys, s'.own, s'.nid, s'.t)) = some r3 → Ext env t r3.2.2.2 := by
                intro ys' r3 h
                have q := Res.bind_ok h; clear h; obtain ⟨ys, h2, h⟩ := q
                cases hb : (valueOf ys).bare <;> rw [hb] at h <;> simp only [cond_true, cond_false] at h <;> cases h <;> exact e1
              cases ex with
              | exit i => cases h
              | normal => exact fin _ _ h
              | ret => exact fin _ _ h
    · change (calleeG Pm sums gs drawnP fuel (d + 1) f args M t nid top).selP env = _ at h
      unfold calleeG at h
      split at h
      · rename_i r1 hs
        rcases Res.bind_pan h with h | ⟨r2, _, h⟩
        · have := (onPan_selP h).2; cases this
        · rw [NoPan.cond (.ok _) (.bad _) env] at h; cases h
      · split at h
        · split at h
          · rw [NoPan.cond (NoPan.catchG _ _ _) (.bad _) env] at h; cases h
          · cases h
        · split at h
          · cases h
          · split at h
            · cases h
            · rename_i cd hc
              rcases Res.bind_pan h with h | ⟨⟨ex, s'⟩, _, h⟩
              · exact code_extP hX hP (drawnP_ext _ hX M top) (drawnP_extP hX hP M top) cd h hw
              · have hn : ∀ (ys' : Option (List Sx.P)), Res.selP env ((ofOpt 105 ys').bind fun ys => bif (valueOf ys).bare then Res.ok (valueOf ys, ([] : Mm), nid, s'.t) else .ok (valueOf ys, s'.own, s'.nid, s'.t)) = none := fun ys' => NoPan.bind (.of _ _) (fun ys => .cond (.ok _) (.ok _)) env
                cases ex with
                | exit i => cases h
                | normal => rw [hn] at h; cases h
                | ret => rw [hn] at h; cases h

/-! what such a function does -/
def okG (n : Nat) (v : Value) : Prop := (n = 0 ∧ ∃ r, v = .float .f32 r) ∨ ∃ vs : List Value, vs.length = n ∧ 0 < n ∧ v = .agg vs.toArray ∧ ∀ u ∈ vs, ∃ r, u = .float .f32 r
def GdOk (Pm : Program) (g : Gd) : Prop := ∀ (cl : FuncId) (vs : List Value) (W : World) (R : World → Ending → World → Prop), Inv.bodied Pm cl = true →
  (∀ W1, Below W.heap.size W W1 → Calls Pm cl vs.toArray W1 (R W1)) →
  (∀ W1 e W2, R W1 e W2 → Below W1.heap.size W1 W2 ∧ ((∃ v, e = .returned v ∧ okG g.n v) ∨ ∃ u, e = .panicked [{ v := .iface g.ty u, recovered := false }])) →
  Calls Pm g.f #[.func (.func cl) #[] vs.toArray] W fun e W' => Below W.heap.size W W' ∧ ∃ W1 W2 e1, Below W.heap.size W W1 ∧ R W1 e1 W2 ∧ ((∃ v, e1 = .returned v ∧ e = .returned (.tuple #[v, .int .i64 0])) ∨ ∃ u, e1 = .panicked [{ v := .iface g.ty u, recovered := false }] ∧ e = .returned (.tuple #[g.z, .int .i64 4]))
theorem allF_ok {e : E} : ∀ {cs : List C} {vs : List Value}, allF cs = true → F2 (Cr e) cs vs → ∀ u ∈ vs, ∃ r, u = .float .f32 r
  | [], _, _, .nil, u, hu => by cases hu
  | c :: cs, _, h, .cons a b, u, hu => by
    cases c <;> simp only [allF] at h <;> first | cases h | skip
    rcases List.mem_cons.1 hu with rfl | hu
    · obtain ⟨_, r, hr, _⟩ := a; exact ⟨r, hr⟩
    · exact allF_ok h b u hu
theorem allF_bare : ∀ {cs : List C}, allF cs = true → cs.all C.bare = true
  | [], _ => rfl
  | c :: cs, h => by
    cases c <;> simp only [allF] at h <;> first | cases h | skip
    simp only [List.all_cons, allF_bare h]; rfl
theorem shapeG_ok {e : E} {n : Nat} {a : A} {x : Sx.P} {v : Value} (h : shapeG n a = some x) (ha : Ar e a v) : okG n v ∧ x.bare = true ∧ Pr e x v := by
  unfold shapeG at h
  split at h
  · rename_i i
    cases hb : Nat.beq n 0 <;> rw [hb] at h <;> simp only [cond_true, cond_false] at h <;> cases h
    obtain ⟨h1, r, hr, h2⟩ := ha
    exact ⟨.inl ⟨beq_eq hb, r, hr⟩, rfl, h1, r, hr, h2⟩
  · rename_i cs
    cases hb : (Nat.beq n cs.length && (Nat.blt 0 n && allF cs)) <;> rw [hb] at h <;> simp only [cond_true, cond_false] at h <;> cases h
    simp only [Bool.and_eq_true] at hb
    obtain ⟨vs, hv, hf⟩ := ha
    exact ⟨.inr ⟨vs, by rw [beq_eq hb.1]; exact (F2.length hf).symm, Nat.le_of_ble_eq_true hb.2.1, hv, allF_ok hb.2.2 hf⟩, allF_bare hb.2.2, vs, hv, hf⟩
  · cases h
theorem gdOf_mem : ∀ {gs : List Gd} {f : FuncId} {g : Gd}, gdOf gs f = some g → g ∈ gs ∧ g.f = f
  | [], _, _, h => by cases h
  | x :: l, f, g, h => by
    unfold gdOf at h
    cases hb : Nat.beq x.f f <;> rw [hb] at h <;> simp only [cond_true, cond_false] at h
    · obtain ⟨h1, h2⟩ := gdOf_mem h; exact ⟨List.mem_cons_of_mem _ h1, h2⟩
    · cases h; exact ⟨List.mem_cons_self, beq_eq hb⟩
theorem readOk_below {e : E} {W W1 : World} {M : Mm} (h : ReadOk e W M) (hb : Below W.heap.size W W1) : ReadOk e W1 M := by
  obtain ⟨r, h1, h2⟩ := h
  exact ⟨r, h1, fun x hx => ⟨Nat.lt_of_lt_of_le (h2 x hx).1 hb.size, range_below hb (h2 x hx).1 (h2 x hx).2⟩⟩
theorem calleeG_sound {env : Nat → Sc} {Pm : Program} {sums : SumsM} {gs : List Gd} {fuel : Nat} (hm : Pm.follows .mixedOrders = true) (hS : SumsOkM env Pm sums) (hE : SumsExtM env sums) (hG : ∀ g ∈ gs, GdOk Pm g) : ∀ d, CallOk env ⟨Pm, calleeG Pm sums gs drawnP fuel d⟩ ∧ CallPan env ⟨Pm, calleeG Pm sums gs drawnP fuel d⟩
  | 0 => ⟨fun f args M t nid top r h => (by cases h), fun f args M t nid top c t' h => (by cases h)⟩
  | d + 1 => by
    obtain ⟨hX, hP⟩ := calleeG_sound (fuel := fuel) hm hS hE hG d
    obtain ⟨hXE, hXP⟩ := calleeG_exts (Pm := Pm) (gs := gs) (fuel := fuel) hE d
    have hDO := drawnP_sound (env := env) hm _ rfl hX hXE
    have hDP := drawnP_pan (env := env) hm _ rfl hX hXE hP
    refine ⟨fun f args M t nid top r h ms K vs W hw hrd hargs hfr hfs => ?_, fun f args M t nid top c t' h ms K vs W hw hrd hargs hfr hfs => ?_⟩
    · change (calleeG Pm sums gs drawnP fuel (d + 1) f args M t nid top).sel env = _ at h
      unfold calleeG at h
      split at h
      · rename_i r1 hs
        have q := Res.bind_ok h; clear h; obtain ⟨r2, h1, h⟩ := q
        rw [onPan_sel] at h1
        cases hb : r2.1.bare <;> rw [hb] at h <;> simp only [cond_true, cond_false] at h
        · cases h
        · cases h
          refine Calls.mono (hS M f args t _ r2 hs h1 ms K vs W hw hfs hrd hargs hb) fun e W' ⟨v', he, h1, h2, h3⟩ => ⟨v', he, ms, K, [], h1, fun i h => ⟨h, rfl⟩, fun i h => .inl h, Nat.le_refl _, h2, ⟨h3, fun _ h => (by cases h), fun _ h => (by cases h), List.nodup_nil⟩, .nil⟩
      · split at h
        · rename_i g hg
          split at h
          · rename_i cl caps _
            cases hb : Inv.bodied Pm cl <;> rw [hb] at h <;> simp only [cond_true, cond_false] at h
            · cases h
            · obtain ⟨hgm, hgf⟩ := gdOf_mem hg
              cases hargs with
              | cons ha hn =>
              cases hn
              obtain ⟨hcap, hfv⟩ := ha
              rw [← hgf, show (List.toArray [_] : Array Value) = #[.func (.func cl) #[] (caps.map fun id => Value.pointer (some ⟨ms id, 0, none⟩)).toArray] by rw [hfv]; rfl]
              have hcargs : F2 (Ar (mkE env t ms K)) (caps.map fun id => A.p (.one (.ptr id 0))) (caps.map fun id => Value.pointer (some ⟨ms id, 0, none⟩)) := caps_args (e := mkE env t ms K) hcap
              rcases catchG_sel h with ⟨r0, x, h1, hsh, rfl⟩ | ⟨ag, bs, t1, z, h1, hz, rfl⟩
              · refine (hG g hgm cl _ W (fun W1 e W2 => ∃ v', e = .returned v' ∧ Done env t nid top ms K W1 r0 v' W2) hb (fun W1 hW1 => hX cl _ M t nid top r0 h1 ms K _ W1 hw (readOk_below hrd hW1) hcargs hfr hfs) (fun W1 e W2 ⟨v', he, hd⟩ => ?_)).mono fun e W' ⟨hbel, W1, W2, e1, hW1, ⟨v', he1, hd⟩, hor⟩ => ?_
                · obtain ⟨ms', K', nl, q1, q2, q3, q4, q5, q6, q7⟩ := hd
                  exact ⟨q6.below, .inl ⟨v', he, (shapeG_ok hsh q5).1⟩⟩
                · obtain ⟨ms', K', nl, q1, q2, q3, q4, q5, q6, q7⟩ := hd
                  obtain ⟨_, hxb, hxr⟩ := shapeG_ok hsh q5
                  rcases hor with ⟨v, hv, rfl⟩ | ⟨u, hu, _⟩
                  · rw [he1] at hv
                    cases hv
                    exact ⟨_, rfl, ms, K, [], q1, fun i h => ⟨h, rfl⟩, fun i h => .inl h, Nat.le_refl _, ⟨[v', .int .i64 0], rfl, .cons (bare_part hxr hxb) (.cons rfl .nil)⟩, ⟨hbel, fun _ h => (by cases h), fun _ h => (by cases h), List.nodup_nil⟩, .nil⟩
                  · rw [he1] at hu; cases hu
              · refine (hG g hgm cl _ W (fun W1 e W2 => ∃ v, e = .panicked [{ v, recovered := false }] ∧ Pn env t W1 (.ifc g.ty ag bs) t1 v W2) hb (fun W1 hW1 => hP cl _ M t nid top _ _ h1 ms K _ W1 hw (readOk_below hrd hW1) hcargs hfr hfs) (fun W1 e W2 ⟨v, he, hd⟩ => ?_)).mono fun e W' ⟨hbel, W1, W2, e1, hW1, ⟨v, he1, hd⟩, hor⟩ => ?_
                · obtain ⟨us, hu, _⟩ := hd.val ms K
                  exact ⟨hd.below, .inr ⟨inner ag us, by rw [he, hu]⟩⟩
                · rcases hor with ⟨v2, hv, _⟩ | ⟨u, hu, rfl⟩
                  · rw [he1] at hv; cases hv
                  · obtain ⟨e2, hzr⟩ := partOf_sound (env := env) (ms := ms) (K := K) hz hd.ext.wf
                    exact ⟨_, rfl, ms, K, [], hd.ext.trans e2, fun i h => ⟨h, rfl⟩, fun i h => .inl h, Nat.le_refl _, ⟨[g.z, .int .i64 4], rfl, .cons hzr (.cons rfl .nil)⟩, ⟨hbel, fun _ h => (by cases h), fun _ h => (by cases h), List.nodup_nil⟩, .nil⟩
          · cases h
        · split at h
          · cases h
          · rename_i fn hfn
            split at h
            · cases h
            · rename_i c hc
              have q := Res.bind_ok h; clear h; obtain ⟨⟨ex, s'⟩, h1, h⟩ := q
              obtain ⟨r0, hr1, hr2⟩ := hrd
              have hlen := F2.length hargs
              refine calls_of_wp hfn hc ?_
              refine code_sound (lo := nid) (ms0 := ms) (K0 := K) (t0 := t) (w0 := W) hX (hDO M nid top ms K t W) c h1 ⟨ms, K, r0, [], Ext.refl hw, hfs, fun i h => ⟨h, rfl⟩, fun i h => .inl h, Nat.le_refl _, hfr, ?_, rfl, Mem.start_old hr2, .nil, hr1⟩ ?_
              · have : (vs.toArray ++ Array.replicate (fn.ntmps - vs.toArray.size) undef).toList = vs ++ List.replicate (fn.ntmps - args.length) undef := by simp [hlen]
                show F2 _ (args ++ _) (vs.toArray ++ Array.replicate (fn.ntmps - vs.toArray.size) undef).toList
                rw [this]
                exact hargs.append (undefs _ _)
              · intro a' W' hr'
                have fin : ∀ r3, Res.sel env ((ofOpt 105 (fetchAll ⟨Pm, calleeG Pm sums gs drawnP fuel d⟩ s' M fn.results.toList)).bind fun ys => bif (valueOf ys).bare then Res.ok (valueOf ys, [], nid, s'.t) else .ok (valueOf ys, s'.own, s'.nid, s'.t)) = some r3 →
                    a'.defers = [] ∧ ∃ v, (results fn a'.tmps).run Pm W' = .ok v W' ∧ Done env t nid top ms K W r3 v W' := by
                  intro r3 h
                  have q := Res.bind_ok h; clear h; obtain ⟨ys, h2, h⟩ := q
                  obtain ⟨ms', K', rr, ll, hr'⟩ := hr'
                  obtain ⟨u, g1, g2⟩ := results_sound hr' (ofOpt_ok h2)
                  refine ⟨hr'.df, u, g1, ?_⟩
                  cases hb : (valueOf ys).bare <;> rw [hb] at h <;> simp only [cond_true, cond_false] at h <;> cases h
                  · exact ⟨ms', K', ll, hr'.ext, hr'.old, hr'.rng, hr'.low, g2, ⟨hr'.mem.below, fun _ h => (by cases h), hr'.mem.new, hr'.mem.apart⟩, hr'.own⟩
                  · exact ⟨ms, K, [], hr'.ext, fun i h => ⟨h, rfl⟩, fun i h => .inl h, Nat.le_refl _, bare_all g2 hb, ⟨hr'.mem.below, fun _ h => (by cases h), fun _ h => (by cases h), List.nodup_nil⟩, .nil⟩
                cases ex with
                | exit i => cases h
                | normal =>
                  obtain ⟨g1, v, g2, g3⟩ := fin _ h
                  exact ⟨g1, v, g2, v, rfl, g3⟩
                | ret =>
                  obtain ⟨g1, v, g2, g3⟩ := fin _ h
                  exact ⟨g1, v, g2, v, rfl, g3⟩
    · change (calleeG Pm sums gs drawnP fuel (d + 1) f args M t nid top).selP env = _ at h
      unfold calleeG at h
      split at h
      · rcases Res.bind_pan h with h | ⟨r2, _, h⟩
        · have := (onPan_selP h).2; cases this
        · rw [NoPan.cond (.ok _) (.bad _) env] at h; cases h
      · split at h
        · split at h
          · rw [NoPan.cond (NoPan.catchG _ _ _) (.bad _) env] at h; cases h
          · cases h
        · split at h
          · cases h
          · rename_i fn hfn
            split at h
            · cases h
            · rename_i cd hc
              rcases Res.bind_pan h with h | ⟨⟨ex, s'⟩, _, h⟩
              · obtain ⟨r0, hr1, hr2⟩ := hrd
                have hlen := F2.length hargs
                refine calls_of_wp hfn hc ?_
                refine code_pan (lo := nid) (ms0 := ms) (K0 := K) (t0 := t) (w0 := W) hX hP (hDO M nid top ms K t W) (hDP M nid top ms K t W) cd h ⟨ms, K, r0, [], Ext.refl hw, hfs, fun i h => ⟨h, rfl⟩, fun i h => .inl h, Nat.le_refl _, hfr, ?_, rfl, Mem.start_old hr2, .nil, hr1⟩ ?_
                · have : (vs.toArray ++ Array.replicate (fn.ntmps - vs.toArray.size) undef).toList = vs ++ List.replicate (fn.ntmps - args.length) undef := by simp [hlen]
                  show F2 _ (args ++ _) (vs.toArray ++ Array.replicate (fn.ntmps - vs.toArray.size) undef).toList
                  rw [this]
                  exact hargs.append (undefs _ _)
                · intro v a' W' hdf hpn
                  exact ⟨hdf, v, rfl, hpn⟩
              · have hn : ∀ (ys' : Option (List Sx.P)), Res.selP env ((ofOpt 105 ys').bind fun ys => bif (valueOf ys).bare then Res.ok (valueOf ys, ([] : Mm), nid, s'.t) else .ok (valueOf ys, s'.own, s'.nid, s'.t)) = none := fun ys' => NoPan.bind (.of _ _) (fun ys => .cond (.ok _) (.ok _)) env
                cases ex with
                | exit i => cases h
                | normal => rw [hn] at h; cases h
                | ret => rw [hn] at h; cases h
noncomputable def checkG (Pm : Program) (sums : SumsM) (gs : List Gd) (fuel depth : Nat) (f : FuncId) (args : List A) (top : Nat) (t : Tb) : Bool :=
  (calleeG Pm sums gs drawnP fuel depth f args [] t 0 top).all fun r => says r.2.2.2.fs r.1
theorem checkG_holds {env : Nat → Sc} {Pm : Program} {sums : SumsM} {gs : List Gd} (hm : Pm.follows .mixedOrders = true) (hs : SumsOkM env Pm sums) (hse : SumsExtM env sums) (hG : ∀ g ∈ gs, GdOk Pm g) {fuel depth : Nat} {f : FuncId} {args : List A} {top : Nat} {t : Tb} (h : checkG Pm sums gs fuel depth f args top t = true) : Holds env Pm f args t := by
  intro hw hf vs ha W
  unfold checkG at h
  obtain ⟨r, hr, hp⟩ := all_sel (env := env) h
  have hc := (calleeG_sound (env := env) (gs := gs) (fuel := fuel) hm hs hse hG depth).1
  refine (hc f args [] t 0 top r hr (fun _ => 0) (fun _ => False) vs W hw ⟨[], .nil, fun x hx => (by cases hx)⟩ ha (fun i _ _ h => h) hf).mono fun e W' ⟨v', he, hd⟩ => ?_
  obtain ⟨ms', K', nl, e1, _, _, _, hv, hmem, _⟩ := hd
  refine ⟨v', he, ?_, hmem.below⟩
  unfold says at hp
  split at hp
  · rename_i b hb
    rw [hb] at hv
    have hv' : v' = .bool b := hv
    rw [hv', hp]; rfl
  · rename_i i p hb
    rw [hb] at hv
    obtain ⟨_, hv'⟩ := hv
    split at hp
    · rename_i b hk
      have := known_sound (env := env) hk (e1.fk hf)
      rw [hv']
      show Value.bool ((den env r.2.2.2.l i).bv == p) = .bool true
      rw [this, hp]
    · cases hp
  · cases hp
end Go.Sx
