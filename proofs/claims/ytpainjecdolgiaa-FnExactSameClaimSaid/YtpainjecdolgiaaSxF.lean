/- A symbolic evaluator of closed terms: plain regions, code, calls. -/
import Derived.Test.YtpainjecdolgiaaSxE
import Derived.Test.YtpainjecdolgiaaSxX
import Derived.LoopN
namespace Go.Sx
open Go Go.RowKit Go.Flo Go.Mem Go.Proofs.Ytpainjecdolgiaa
set_option linter.unusedVariables false
set_option linter.unusedSimpArgs false

theorem Mem.readAll {w0 W : World} {r l : Blocks} (h : Mem w0 W r l) : ∀ x ∈ l ++ r, x.1 < W.heap.size ∧ W.rangeAt x.1 0 x.2 := fun x hx => by
  rcases List.mem_append.1 hx with hx | hx
  · exact ⟨(h.new x hx).2.1, (h.new x hx).2.2.1⟩
  · exact ⟨Nat.lt_of_lt_of_le (h.old x hx).1 h.below.size, (h.old x hx).2⟩
theorem Mem.join {w0 W W' : World} {r l nl : Blocks} (h : Mem w0 W r l) (g : Mem W W' [] nl) : Mem w0 W' r (nl ++ l) := by
  have hc := h.call g.below
  refine ⟨hc.below, hc.old, fun x hx => ?_, ?_⟩
  · rcases List.mem_append.1 hx with hx | hx
    · obtain ⟨a, b⟩ := g.new x hx; exact ⟨Nat.le_trans h.below.size a, b⟩
    · exact hc.new x hx
  · rw [List.map_append, List.nodup_append]
    refine ⟨g.apart, h.apart, fun a ha b hb hab => ?_⟩
    obtain ⟨x, hx, rfl⟩ := List.mem_map.1 ha
    obtain ⟨y, hy, rfl⟩ := List.mem_map.1 hb
    have h1 := (g.new x hx).1
    have h2 := (h.new y hy).2.1
    omega

/-- where a run stands: 'K0', 'ms0' of the blocks that it was given -/
structure Rel (env : Nat → Sc) (X : Ctx) (rd : Mm) (lo top : Nat) (ms0 : Nat → Nat) (K0 : Nat → Prop) (t0 : Tb) (w0 : World) (s : S) (a : Act) (W : World) (ms : Nat → Nat) (K : Nat → Prop) (r l : Blocks) : Prop where
  ext : Ext env t0 s.t
  facts : FactsOk env s.t.fs s.t
  old : ∀ i, K0 i → K i ∧ ms i = ms0 i
  rng : ∀ i, K i → K0 i ∨ (lo ≤ i ∧ i < s.nid ∧ i < top)
  low : lo ≤ s.nid
  fresh : ∀ i, lo ≤ i → i < top → ¬ K0 i
  tm : F2 (Ar (mkE env s.t ms K)) s.tm a.tmps.toList
  df : a.defers = []
  mem : Mem w0 W r l
  own : F2 (Br (mkE env s.t ms K)) s.own l
  rdr : F2 (Br (mkE env s.t ms K)) rd r
def RelX (env : Nat → Sc) (X : Ctx) (rd : Mm) (lo top : Nat) (ms0 : Nat → Nat) (K0 : Nat → Prop) (t0 : Tb) (w0 : World) (s : S) (a : Act) (W : World) : Prop := ∃ ms K r l, Rel env X rd lo top ms0 K0 t0 w0 s a W ms K r l

section
variable {env : Nat → Sc} {X : Ctx} {rd : Mm} {lo top : Nat} {ms0 : Nat → Nat} {K0 : Nat → Prop} {t0 : Tb} {w0 : World}

theorem put_rel {e : E} {tm : List A} {a : Act} (h : F2 (Ar e) tm a.tmps.toList) {v : A} {v' : Value} (hv : Ar e v v') (d : Option Tmp) : F2 (Ar e) (putA tm d v) (a.put d v').tmps.toList := by
  cases d with
  | none => exact h
  | some i =>
    show F2 (Ar e) (setT v tm i) (a.tmps.setIfInBounds i v').toList
    rw [Array.toList_setIfInBounds, setT_eq]
    exact h.set hv
theorem put_df {a : Act} {d : Option Tmp} {v : Value} (h : a.defers = []) : (a.put d v).defers = [] := by cases d <;> exact h

theorem step_sound (hX : CallOk env X) {o : Oper} {s s' : S} {a : Act} {W : World} (h : (step X rd top o s).sel env = some s') (hr : RelX env X rd lo top ms0 K0 t0 w0 s a W)
    {Kont : Act → World → Prop} {Q : Exit → Act → World → Prop} (hK : ∀ a' W', RelX env X rd lo top ms0 K0 t0 w0 s' a' W' → Kont a' W') : Oper.wp X.P o a W Kont Q := by
  obtain ⟨ms, K, r, l, hr⟩ := hr
  unfold step at h
  split at h
  · rename_i ty x y ho
    have q := Res.bind_ok h; clear h; obtain ⟨⟨k, id, cs, t'⟩, h1, h⟩ := q
    cases h
    unfold storeAt at h1
    have q := Res.bind_ok h1; clear h1; obtain ⟨⟨x1, t1⟩, h2, h1⟩ := q
    have q := Res.bind_ok h1; clear h1; obtain ⟨⟨y1, t2⟩, h3, h1⟩ := q
    obtain ⟨e1, r1⟩ := cell1_sound (ofOpt_ok h2) hr.ext.wf (.of hr.tm)
    obtain ⟨e2, r2⟩ := part1_sound (ofOpt_ok h3) e1.wf (tm_up e1 (.of hr.tm))
    simp only at h1
    split at h1
    · rename_i id' off
      split at h1
      · rename_i k' cs' i hpl hi
        cases hb : (Nat.beq i.size y1.cells.length && Nat.ble (off + y1.cells.length) cs'.length) <;> rw [hb] at h1 <;> simp only [cond_true, cond_false] at h1
        · cases h1
        · cases h1
          simp only [Bool.and_eq_true] at hb
          have g1 := beq_eq hb.1
          have g2 := Nat.le_of_ble_eq_true hb.2
          have e12 := e1.trans e2
          have hown := hr.own.mono fun _ _ => Br.mono (e12.up ms K)
          obtain ⟨vs, q1, q2, q3, q4⟩ := F2.at_place hown hpl
          obtain ⟨_, hx⟩ := r1
          have hcl := r2.cells
          have hlen := F2.length hcl
          refine Mem.wp_store hr.mem ho hx rfl rfl (by rw [hi]; simp; rw [g1, hlen]; simp) (all_cells hcl) k q1 (by rw [← hlen, ← F2.length q2]; exact g2) fun W' hM => hK _ _ ⟨ms, K, r, l.set k (ms id, Mem.splice vs off (a.eval y).cells.toList), ?_⟩
          exact ⟨hr.ext.trans e12, e12.fk hr.facts, hr.old, hr.rng, hr.low, hr.fresh, put_rel (hr.tm.mono fun _ _ => Ar.mono (e12.up ms K)) (v := .junk) trivial _, put_df hr.df, hM, hown.set ⟨q4, rfl, F2.splice off q2 hcl⟩, hr.rdr.mono fun _ _ => Br.mono (e12.up ms K)⟩
      · cases h1
    · cases h1
  · have q := Res.bind_ok h; clear h; obtain ⟨⟨v, new, nid', t'⟩, h1, h⟩ := q
    cases h
    have hf : ∀ i, s.nid ≤ i → i < top → ¬ K i := fun i h1 h2 hk => by
      rcases hr.rng i hk with h | ⟨_, h, _⟩
      · exact hr.fresh i (Nat.le_trans hr.low h1) h2 h
      · omega
    refine act_sound hX h1 ⟨hr.ext.wf, ⟨l ++ r, hr.own.append hr.rdr, Mem.readAll hr.mem⟩, .of hr.tm, hf, hr.facts⟩ fun v' W' hd => hK _ _ ?_
    obtain ⟨ms', K', nl, q1, q2, q3, q4, q5, q6, q7⟩ := hd
    have hle : (mkE env s.t ms K).le (mkE env t' ms' K') := ⟨q1.le, q1.den, fun i hi => (q2 i hi).1, fun i hi => (q2 i hi).2⟩
    refine ⟨ms', K', r, nl ++ l, hr.ext.trans q1, q1.fk hr.facts, fun i hi => ?_, fun i hi => ?_, Nat.le_trans hr.low q4, hr.fresh, put_rel (hr.tm.mono fun _ _ => Ar.mono hle) q5 _, put_df hr.df, Mem.join hr.mem q6, q7.append (hr.own.mono fun _ _ => Br.mono hle), hr.rdr.mono fun _ _ => Br.mono hle⟩
    · obtain ⟨a1, a2⟩ := hr.old i hi
      obtain ⟨b1, b2⟩ := q2 i a1
      exact ⟨b1, b2.trans a2⟩
    · have h4 : s.nid ≤ nid' := q4
      rcases q3 i hi with h | ⟨h1, h2, h3⟩
      · rcases hr.rng i h with h | ⟨h1, h2, h3⟩
        · exact .inl h
        · exact .inr ⟨h1, by show i < nid'; omega, h3⟩
      · have := hr.low
        exact .inr ⟨by omega, h2, h3⟩

theorem skip_rel {s : S} {a : Act} {W : World} (hr : RelX env X rd lo top ms0 K0 t0 w0 s a W) (d : Option Tmp) : RelX env X rd lo top ms0 K0 t0 w0 { s with tm := putA s.tm d (.tup []) } (a.put d undef) W := by
  obtain ⟨ms, K, r, l, hr⟩ := hr
  exact ⟨ms, K, r, l, hr.ext, hr.facts, hr.old, hr.rng, hr.low, hr.fresh, put_rel hr.tm (v := .tup []) ⟨[], rfl, .nil⟩ _, put_df hr.df, hr.mem, hr.own, hr.rdr⟩

theorem ext_rel {s : S} {a : Act} {W : World} {ms : Nat → Nat} {K : Nat → Prop} {r l : Blocks} (hr : Rel env X rd lo top ms0 K0 t0 w0 s a W ms K r l) {t : Tb} (e : Ext env s.t t) : RelX env X rd lo top ms0 K0 t0 w0 { s with t := t } a W :=
  ⟨ms, K, r, l, hr.ext.trans e, e.fk hr.facts, hr.old, hr.rng, hr.low, hr.fresh, hr.tm.mono fun _ _ => Ar.mono (e.up ms K), hr.df, hr.mem, hr.own.mono fun _ _ => Br.mono (e.up ms K), hr.rdr.mono fun _ _ => Br.mono (e.up ms K)⟩
theorem wants_sound {ops : Array Oper} {o : Oper} {s : S} {b : Bool × Tb} {a : Act} {W : World} (h : (wants X ops o s).sel env = some b) (hr : RelX env X rd lo top ms0 K0 t0 w0 s a W) : Region.wanted o (yielded ops a.tmps) = b.1 := by
  obtain ⟨ms, K, r, l, hr⟩ := hr
  unfold wants at h
  unfold Region.wanted
  split at h
  · rename_i hg
    cases h
    rw [hg]
  · rename_i j w hg
    rw [hg]
    simp only
    split at h
    · cases h
    · rename_i d hd
      split at h
      · rename_i c hc
        have q := Res.bind_ok h; clear h; obtain ⟨⟨v, tv⟩, h1, h⟩ := q
        cases h
        rw [getT_eq] at hc
        obtain ⟨x, hx, hxr⟩ := hr.tm.get hc
        have hv := truth_sound (env := env) (ms := ms) (K := K) h1 hr.ext.wf hr.facts hxr
        unfold yielded
        rw [hd]
        have hx' : a.tmps[d]? = some x := by rw [← Array.getElem?_toList]; exact hx
        simp only [Option.bind_some, hx', hv]
        cases v <;> cases w <;> rfl
      · rename_i hc
        cases h
        rw [getT_eq] at hc
        obtain ⟨x, hx, hxr⟩ := hr.tm.get hc
        obtain ⟨vs, hv, hvs⟩ := hxr
        cases hvs
        unfold yielded
        rw [hd]
        have hx' : a.tmps[d]? = some x := by rw [← Array.getElem?_toList]; exact hx
        simp only [Option.bind_some, hx', hv]
        cases w <;> rfl
      · cases h

theorem run_sound (hX : CallOk env X) {ops : Array Oper} {Q : Exit → Act → World → Prop} : ∀ {l : List Oper} {s s' : S} {a : Act} {W : World}, (run X rd top ops l s).sel env = some s' → RelX env X rd lo top ms0 K0 t0 w0 s a W →
    (∀ a' W', RelX env X rd lo top ms0 K0 t0 w0 s' a' W' → Q .normal a' W') → wpList X.P ops Q l a W
  | [], s, s', a, W, h, hr, hQ => by cases h; exact hQ _ _ hr
  | o :: l, s, s', a, W, h, hr, hQ => by
    unfold run at h
    have q := Res.bind_ok h; clear h; obtain ⟨⟨b, tb⟩, h1, h⟩ := q
    have hb := wants_sound h1 hr
    have hr' : RelX env X rd lo top ms0 K0 t0 w0 { s with t := tb } a W := by
      obtain ⟨ms, K, r, l, hr1⟩ := hr
      exact ext_rel hr1 (wants_ext h1 hr1.ext.wf)
    unfold wpList
    rw [hb]
    cases b <;> simp only [cond_true, cond_false] at h
    · rw [if_neg (by simp)]
      exact run_sound hX h (skip_rel hr' _) hQ
    · rw [if_pos rfl]
      have hr := hr'
      have q := Res.bind_ok h; clear h; obtain ⟨s1, h2, h⟩ := q
      exact .inl (step_sound hX h2 hr fun a' W' hr' => run_sound hX h hr' hQ)

def exitOf : Ex → Exit
  | .normal => .normal
  | .exit id => .exit id
  | .ret => .ret
/-- regions that draw -/
def DrOk (env : Nat → Sc) (X : Ctx) (rd : Mm) (lo top : Nat) (ms0 : Nat → Nat) (K0 : Nat → Prop) (t0 : Tb) (w0 : World) (dr : Array Oper → S → Res S) : Prop :=
  ∀ id ops s s' a W, (dr ops s).sel env = some s' → RelX env X rd lo top ms0 K0 t0 w0 s a W → ∀ Q : Exit → Act → World → Prop, (∀ a' W', RelX env X rd lo top ms0 K0 t0 w0 s' a' W' → Q .normal a' W') → (Code.region id ops true).wp X.P Q a W
variable {dr : Array Oper → S → Res S} {fuel : Nat}

theorem rounds_sound {c : Code} {Q : Exit → Act → World → Prop} {f : S → Res (Ex × S)}
    (hf : ∀ {s s' : S} {ex : Ex} {a : Act} {W : World} {Q : Exit → Act → World → Prop}, (f s).sel env = some (ex, s') → RelX env X rd lo top ms0 K0 t0 w0 s a W → (∀ a' W', RelX env X rd lo top ms0 K0 t0 w0 s' a' W' → Q (exitOf ex) a' W') → c.wp X.P Q a W) :
    ∀ (n : Nat) {s s' : S} {ex : Ex} {a : Act} {W : World}, (rounds f n s).sel env = some (ex, s') → RelX env X rd lo top ms0 K0 t0 w0 s a W → (∀ a' W', RelX env X rd lo top ms0 K0 t0 w0 s' a' W' → Q (exitOf ex) a' W') → Code.rounds X.P c Q n a W
  | 0, s, s', ex, a, W, h, _, _ => by cases h
  | n + 1, s, s', ex, a, W, h, hr, hQ => by
    unfold rounds at h
    have q := Res.bind_ok h; clear h; obtain ⟨⟨ex1, s1⟩, h1, h⟩ := q
    rw [rounds_succ]
    refine hf h1 hr fun a' W' hr' => ?_
    cases ex1 with
    | normal => exact rounds_sound hf n h hr' hQ
    | exit id => cases h; exact hQ _ _ hr'
    | ret => cases h; exact hQ _ _ hr'

theorem code_sound (hX : CallOk env X) (hD : DrOk env X rd lo top ms0 K0 t0 w0 dr) : ∀ (c : Code) {s s' : S} {ex : Ex} {a : Act} {W : World} {Q : Exit → Act → World → Prop}, (code X rd top dr fuel c s).sel env = some (ex, s') → RelX env X rd lo top ms0 K0 t0 w0 s a W →
    (∀ a' W', RelX env X rd lo top ms0 K0 t0 w0 s' a' W' → Q (exitOf ex) a' W') → c.wp X.P Q a W := by
  intro c
  induction c with
  | skip => intro s s' ex a W Q h hr hQ; cases h; exact wp_skip (hQ _ _ hr)
  | label l => intro s s' ex a W Q h hr hQ; cases h; exact wp_label (hQ _ _ hr)
  | exit id => intro s s' ex a W Q h hr hQ; cases h; exact wp_exit (hQ _ _ hr)
  | ret => intro s s' ex a W Q h hr hQ; cases h; exact wp_ret (hQ _ _ hr)
  | region id ops d =>
    intro s s' ex a W Q h hr hQ
    unfold code at h
    cases d <;> simp only [cond_true, cond_false] at h <;> (have q := Res.bind_ok h; clear h; obtain ⟨s1, h1, h⟩ := q; cases h)
    · exact wp_region_list (run_sound hX h1 hr hQ)
    · exact hD id ops _ _ _ _ h1 hr Q hQ
  | seq x y ihx ihy =>
    intro s s' ex a W Q h hr hQ
    unfold code at h
    have q := Res.bind_ok h; clear h; obtain ⟨⟨ex1, s1⟩, h1, h⟩ := q
    refine wp_seq (ihx h1 hr fun a' W' hr' => ?_)
    cases ex1 with
    | normal => exact ihy h hr' hQ
    | exit id => cases h; exact hQ _ _ hr'
    | ret => cases h; exact hQ _ _ hr'
  | cond c x y ihx ihy =>
    intro s s' ex a W Q h hr hQ
    unfold code at h
    have q := Res.bind_ok h; clear h; obtain ⟨⟨c1, t1⟩, h1, h⟩ := q
    have q := Res.bind_ok h; clear h; obtain ⟨⟨v, t2⟩, h2, h⟩ := q
    have hr0 := hr
    obtain ⟨ms, K, r, l, hr1⟩ := hr0
    obtain ⟨e1, r1⟩ := cell1_sound (ofOpt_ok h1) hr1.ext.wf (.of hr1.tm)
    have hv : a.eval c = .bool v := truth_sound (env := env) (ms := ms) (K := K) h2 e1.wf (e1.fk hr1.facts) r1
    have hr' := ext_rel hr1 (e1.trans (truth_ext h2 e1.wf))
    cases v <;> simp only [cond_true, cond_false] at h
    · exact wp_cond hv (ihy h hr' hQ)
    · exact wp_cond hv (ihx h hr' hQ)
  | block id x ih =>
    intro s s' ex a W Q h hr hQ
    unfold code at h
    have q := Res.bind_ok h; clear h; obtain ⟨⟨ex1, s1⟩, h1, h⟩ := q
    refine wp_block (ih h1 hr fun a' W' hr' => ?_)
    cases ex1 with
    | normal => cases h; exact hQ _ _ hr'
    | exit i =>
      simp only at h
      show if i = id then Q .normal a' W' else Q (.exit i) a' W'
      cases hb : Nat.beq i id <;> rw [hb] at h <;> simp only [cond_true, cond_false] at h <;> cases h
      · have : i ≠ id := fun e => by subst e; simp at hb
        rw [if_neg this]; exact hQ _ _ hr'
      · rw [if_pos (beq_eq hb)]; exact hQ _ _ hr'
    | ret => cases h; exact hQ _ _ hr'
  | loop x ih =>
    intro s s' ex a W Q h hr hQ
    unfold code at h
    exact wp_loop_rounds fuel (rounds_sound (c := x) (fun h1 hr1 hQ1 => ih h1 hr1 hQ1) fuel h hr hQ)
  | rangeFunc f ps x y _ _ => intro s s' ex a W Q h hr hQ; unfold code at h; cases h
  | scope x _ => intro s s' ex a W Q h hr hQ; unfold code at h; cases h
  | goto l => intro s s' ex a W Q h hr hQ; unfold code at h; cases h
  | refuse w => intro s s' ex a W Q h hr hQ; unfold code at h; cases h

/-! what is handed back -/
theorem fetch_sound {s : S} {a : Act} {W : World} {ms : Nat → Nat} {K : Nat → Prop} {r l : Blocks} (hr : Rel env X rd lo top ms0 K0 t0 w0 s a W ms K r l) {v : ResultVar} {y : Sx.P} (h : fetchR X s rd v = some y) :
    ∃ u, (fetch a.tmps v).run X.P W = .ok u W ∧ Pr (mkE env s.t ms K) y u := by
  unfold fetchR at h
  split at h
  · rename_i t
    split at h
    · rename_i x hx
      cases h
      rw [getT_eq] at hx
      obtain ⟨b, hb, hbr⟩ := hr.tm.get hx
      refine ⟨b, fetch_tmp ?_, hbr⟩
      simp [Array.getD_eq_getD_getElem?, ← Array.getElem?_toList, hb]
    · cases h
  · rename_i t ty
    split at h
    · rename_i id off hx
      split at h
      · rename_i cs hl
        rw [getT_eq] at hx
        obtain ⟨b, hb, hbr⟩ := hr.tm.get hx
        obtain ⟨_, hbv⟩ := hbr
        have hread : ReadOk (mkE env s.t ms K) W (s.own ++ rd) := ⟨l ++ r, hr.own.append hr.rdr, Mem.readAll hr.mem⟩
        obtain ⟨vs, g1, g2, g3, g4⟩ := hread.look hl
        obtain ⟨v, hv, hr2⟩ := load_sound (Pm := X.P) (W := W) (ty := ty) g3 g1 h
        refine ⟨v, ?_, hr2⟩
        have e : a.tmps.getD t undef = .pointer (some ⟨ms id, off, none⟩) := by
          simp [Array.getD_eq_getD_getElem?, ← Array.getElem?_toList, hb, hbv, mkE]
        show Sem.run X.P (do loadVar ty (← asAddr (a.tmps.getD t undef))) W = _
        rw [e]
        simpa [Instr.loadAt, Instr.sureAddr, asAddr, Sem.run_bind, mkE] using hv
      · cases h
    · cases h
theorem fetchAll_sound {s : S} {a : Act} {W : World} {ms : Nat → Nat} {K : Nat → Prop} {r l : Blocks} (hr : Rel env X rd lo top ms0 K0 t0 w0 s a W ms K r l) : ∀ {vs : List ResultVar} {ys : List Sx.P}, fetchAll X s rd vs = some ys →
    ∃ us, (vs.mapM (fetch a.tmps)).run X.P W = .ok us W ∧ F2 (Pr (mkE env s.t ms K)) ys us
  | [], ys, h => by cases h; exact ⟨[], by simp, .nil⟩
  | v :: vs, ys, h => by
    unfold fetchAll at h
    split at h
    · cases h
    · rename_i x h1
      split at h
      · cases h
      · rename_i xs h2
        cases h
        obtain ⟨u, g1, g2⟩ := fetch_sound hr h1
        obtain ⟨us, g3, g4⟩ := fetchAll_sound hr h2
        exact ⟨u :: us, by simp [List.mapM_cons, g1, g3], .cons g2 g4⟩
theorem results_sound {fn : Func} {s : S} {a : Act} {W : World} {ms : Nat → Nat} {K : Nat → Prop} {r l : Blocks} (hr : Rel env X rd lo top ms0 K0 t0 w0 s a W ms K r l) {ys : List Sx.P} (h : fetchAll X s rd fn.results.toList = some ys) :
    ∃ u, (results fn a.tmps).run X.P W = .ok u W ∧ Ar (mkE env s.t ms K) (valueOf ys) u := by
  obtain ⟨us, g1, g2⟩ := fetchAll_sound hr h
  have hm : (fn.results.mapM (fetch a.tmps)).run X.P W = .ok us.toArray W := by
    rw [Array.mapM_eq_mapM_toList]
    simp [g1]
  rw [results_eq]
  simp only [Sem.run_bind, hm, Result.andThen_ok, Sem.run_pure]
  cases g2 with
  | nil => exact ⟨_, rfl, [], rfl, .nil⟩
  | cons h1 h2 =>
    cases h2 with
    | nil => exact ⟨_, rfl, h1⟩
    | cons h3 h4 =>
      refine ⟨_, rfl, ?_⟩
      rw [dif_neg (by simp)]
      exact ⟨_, rfl, .cons h1 (.cons h3 h4)⟩

theorem bare_cell {t : Tb} {ms ms' : Nat → Nat} {K K' : Nat → Prop} {c : C} {v : Value} (h : Cr (mkE env t ms K) c v) (hb : c.bare = true) : Cr (mkE env t ms' K') c v := by
  cases c with
  | ptr id off => cases hb
  | slc id off len cap => cases hb
  | fn f caps =>
    cases caps with
    | nil => exact ⟨fun id h => (by cases h), h.2⟩
    | cons a l => cases hb
  | ifc ty ag bs =>
    obtain ⟨vs, h1, h2⟩ := h
    refine ⟨vs, h1, ?_⟩
    clear h1
    have hb' : (bs.all fun | .ptr _ _ => false | _ => true) = true := hb
    clear hb
    induction h2 with
    | nil => exact .nil
    | cons a _ ih =>
      simp only [List.all_cons, Bool.and_eq_true] at hb'
      refine .cons ?_ (ih hb'.2)
      rename_i b v _ _ _
      cases b <;> first | exact a | cases hb'.1
  | _ => exact h
theorem bare_cells {t : Tb} {ms ms' : Nat → Nat} {K K' : Nat → Prop} : ∀ {cs : List C} {vs : List Value}, F2 (Cr (mkE env t ms K)) cs vs → cs.all C.bare = true → F2 (Cr (mkE env t ms' K')) cs vs
  | _, _, .nil, _ => .nil
  | _, _, .cons a b, h => by
    simp only [List.all_cons, Bool.and_eq_true] at h
    exact .cons (bare_cell a h.1) (bare_cells b h.2)
theorem bare_part {t : Tb} {ms ms' : Nat → Nat} {K K' : Nat → Prop} {c : Sx.P} {v : Value} (h : Pr (mkE env t ms K) c v) (hb : c.bare = true) : Pr (mkE env t ms' K') c v := by
  cases c with
  | one c => exact bare_cell h hb
  | agg cs => obtain ⟨vs, h1, h2⟩ := h; exact ⟨vs, h1, bare_cells h2 hb⟩
theorem bare_parts {t : Tb} {ms ms' : Nat → Nat} {K K' : Nat → Prop} : ∀ {cs : List Sx.P} {vs : List Value}, F2 (Pr (mkE env t ms K)) cs vs → cs.all P.bare = true → F2 (Pr (mkE env t ms' K')) cs vs
  | _, _, .nil, _ => .nil
  | _, _, .cons a b, h => by
    simp only [List.all_cons, Bool.and_eq_true] at h
    exact .cons (bare_part a h.1) (bare_parts b h.2)
theorem bare_all {t : Tb} {ms ms' : Nat → Nat} {K K' : Nat → Prop} {c : A} {v : Value} (h : Ar (mkE env t ms K) c v) (hb : c.bare = true) : Ar (mkE env t ms' K') c v := by
  cases c with
  | p x => exact bare_part h hb
  | tup l => obtain ⟨vs, h1, h2⟩ := h; exact ⟨vs, h1, bare_parts h2 hb⟩
  | junk => trivial
end

/-- a call's own run: what is known of some functions is taken from 'sums'; the others are run -/
abbrev Sums := FuncId → List A → Tb → Option (Res (A × Tb))
noncomputable def callee (Pm : Program) (sums : Sums) (dr : Ctx → Mm → Nat → Array Oper → S → Res S) (fuel : Nat) : Nat → FuncId → List A → Mm → Tb → Nat → Nat → Res (A × Mm × Nat × Tb)
  | 0, _, _, _, _, _, _ => .bad 100
  | d + 1, f, args, M, t, nid, top => match sums f args t with
    | some r => r.bind fun r => bif r.1.bare then .ok (r.1, [], nid, r.2) else .bad 101
    | none => match Pm.funcs[f]? with
      | none => .bad 102
      | some fn => match fn.body with
        | none => .bad 103
        | some c => (code ⟨Pm, callee Pm sums dr fuel d⟩ M top (dr ⟨Pm, callee Pm sums dr fuel d⟩ M top) fuel c ⟨t, args ++ List.replicate (fn.ntmps - args.length) .junk, [], nid⟩).bind fun r => match r.1 with
          | .exit _ => .bad 104
          | _ => (ofOpt 105 (fetchAll ⟨Pm, callee Pm sums dr fuel d⟩ r.2 M fn.results.toList)).bind fun ys => bif (valueOf ys).bare then .ok (valueOf ys, [], nid, r.2.t) else .ok (valueOf ys, r.2.own, r.2.nid, r.2.t)
def SumsOk (env : Nat → Sc) (Pm : Program) (sums : Sums) : Prop := ∀ f args t q r, sums f args t = some q → q.sel env = some r → ∀ ms K vs W, WF t → FactsOk env t.fs t → F2 (Ar (mkE env t ms K)) args vs → r.1.bare = true →
  Calls Pm f vs.toArray W fun e W' => ∃ v', e = .returned v' ∧ Ext env t r.2 ∧ Ar (mkE env r.2 ms K) r.1 v' ∧ Below W.heap.size W W'
def SumsExt (env : Nat → Sc) (sums : Sums) : Prop := ∀ f args t q r, sums f args t = some q → q.sel env = some r → WF t → Ext env t r.2
def DrawnExt (env : Nat → Sc) (dr : Ctx → Mm → Nat → Array Oper → S → Res S) : Prop := ∀ X : Ctx, CallExt env X → ∀ rd top, DrExt env (dr X rd top)
theorem callee_ext {env : Nat → Sc} {Pm : Program} {sums : Sums} {dr : Ctx → Mm → Nat → Array Oper → S → Res S} {fuel : Nat} (hS : SumsExt env sums) (hD : DrawnExt env dr) : ∀ d, CallExt env ⟨Pm, callee Pm sums dr fuel d⟩
  | 0 => fun f args M t nid top r h => by cases h
  | d + 1 => fun f args M t nid top r h hw => by
    have hX := callee_ext (Pm := Pm) (fuel := fuel) hS hD d
    change (callee Pm sums dr fuel (d + 1) f args M t nid top).sel env = _ at h
    unfold callee at h
    split at h
    · rename_i r1 hs
      have q := Res.bind_ok h; clear h; obtain ⟨r2, h1, h⟩ := q
      cases hb : r2.1.bare <;> rw [hb] at h <;> simp only [cond_true, cond_false] at h <;> cases h
      exact hS _ _ _ _ _ hs h1 hw
    · split at h
      · cases h
      · rename_i fn hfn
        split at h
        · cases h
        · rename_i c hc
          have q := Res.bind_ok h; clear h; obtain ⟨⟨ex, s'⟩, h1, h⟩ := q
          have e1 := code_ext hX (hD _ hX M top) c h1 hw
          have fin : ∀ r3, Res.sel env ((ofOpt 105 (fetchAll ⟨Pm, callee Pm sums dr fuel d⟩ s' M fn.results.toList)).bind fun ys => bif (valueOf ys).bare then Res.ok (valueOf ys, ([] : Mm), nid, s'.t) else .ok (valueOf ys, s'.own, s'.nid, s'.t)) = some r3 → Ext env t r3.2.2.2 := by
            intro r3 h
            have q := Res.bind_ok h; clear h; obtain ⟨ys, h2, h⟩ := q
            cases hb : (valueOf ys).bare <;> rw [hb] at h <;> simp only [cond_true, cond_false] at h <;> cases h <;> exact e1
          cases ex with
          | exit i => cases h
          | normal => exact fin _ h
          | ret => exact fin _ h
def DrawnOk (env : Nat → Sc) (Pm : Program) (dr : Ctx → Mm → Nat → Array Oper → S → Res S) : Prop := ∀ X : Ctx, X.P = Pm → CallOk env X → CallExt env X → ∀ rd lo top ms0 K0 t0 w0, DrOk env X rd lo top ms0 K0 t0 w0 (dr X rd top)
theorem undefs (e : E) : ∀ n, F2 (Ar e) (List.replicate n A.junk) (List.replicate n undef)
  | 0 => .nil
  | n + 1 => .cons trivial (undefs e n)
theorem callee_sound {env : Nat → Sc} {Pm : Program} {sums : Sums} {dr : Ctx → Mm → Nat → Array Oper → S → Res S} {fuel : Nat} (hS : SumsOk env Pm sums) (hE : SumsExt env sums) (hD : DrawnOk env Pm dr) (hDE : DrawnExt env dr) : ∀ d, CallOk env ⟨Pm, callee Pm sums dr fuel d⟩
  | 0 => fun f args M t nid top r h => by cases h
  | d + 1 => fun f args M t nid top r h ms K vs W hw hrd hargs hfr hfs => by
    have hX := callee_sound (fuel := fuel) hS hE hD hDE d
    have hXE := callee_ext (Pm := Pm) (fuel := fuel) hE hDE d
    change (callee Pm sums dr fuel (d + 1) f args M t nid top).sel env = _ at h
    unfold callee at h
    split at h
    · rename_i r1 hs
      have q := Res.bind_ok h; clear h; obtain ⟨r2, h1, h⟩ := q
      cases hb : r2.1.bare <;> rw [hb] at h <;> simp only [cond_true, cond_false] at h
      · cases h
      · cases h
        refine Calls.mono (hS f args t _ r2 hs h1 ms K vs W hw hfs hargs hb) fun e W' ⟨v', he, h1, h2, h3⟩ => ⟨v', he, ms, K, [], h1, fun i h => ⟨h, rfl⟩, fun i h => .inl h, Nat.le_refl _, h2, ⟨h3, fun _ h => (by cases h), fun _ h => (by cases h), List.nodup_nil⟩, .nil⟩
    · split at h
      · cases h
      · rename_i fn hfn
        split at h
        · cases h
        · rename_i c hc
          have q := Res.bind_ok h; clear h; obtain ⟨⟨ex, s'⟩, h1, h⟩ := q
          obtain ⟨r0, hr1, hr2⟩ := hrd
          have hlen := F2.length hargs
          refine calls_of_wp hfn hc ?_
          refine code_sound (lo := nid) (ms0 := ms) (K0 := K) (t0 := t) (w0 := W) hX (hD _ rfl hX hXE M nid top ms K t W) c h1 ⟨ms, K, r0, [], Ext.refl hw, hfs, fun i h => ⟨h, rfl⟩, fun i h => .inl h, Nat.le_refl _, hfr, ?_, rfl, Mem.start_old hr2, .nil, hr1⟩ ?_
          · have : (vs.toArray ++ Array.replicate (fn.ntmps - vs.toArray.size) undef).toList = vs ++ List.replicate (fn.ntmps - args.length) undef := by simp [hlen]
            show F2 _ (args ++ _) (vs.toArray ++ Array.replicate (fn.ntmps - vs.toArray.size) undef).toList
            rw [this]
            exact hargs.append (undefs _ _)
          · intro a' W' hr'
            have fin : ∀ r3, Res.sel env ((ofOpt 105 (fetchAll ⟨Pm, callee Pm sums dr fuel d⟩ s' M fn.results.toList)).bind fun ys => bif (valueOf ys).bare then Res.ok (valueOf ys, [], nid, s'.t) else .ok (valueOf ys, s'.own, s'.nid, s'.t)) = some r3 →
                a'.defers = [] ∧ ∃ v, (results fn a'.tmps).run Pm W' = .ok v W' ∧ Done env t nid top ms K W r3 v W' := by
              intro r3 h
              have q := Res.bind_ok h; clear h; obtain ⟨ys, h2, h⟩ := q
              obtain ⟨ms', K', rr, ll, hr'⟩ := hr'
              obtain ⟨u, g1, g2⟩ := results_sound hr' (ofOpt_ok h2)
              refine ⟨hr'.df, u, g1, ?_⟩
              cases hb : (valueOf ys).bare <;> rw [hb] at h <;> simp only [cond_true, cond_false] at h <;> cases h
              · exact ⟨ms', K', ll, hr'.ext, hr'.old, hr'.rng, hr'.low, g2, ⟨hr'.mem.below, fun _ h => (by cases h), hr'.mem.new, hr'.mem.apart⟩, hr'.own⟩
              · exact ⟨ms, K, [], hr'.ext, fun i h => ⟨h, rfl⟩, fun i h => .inl h, Nat.le_refl _, bare_all g2 hb, ⟨hr'.mem.below, fun _ h => (by cases h), fun _ h => (by cases h), List.nodup_nil⟩, .nil⟩
            cases ex with
            | exit i => cases h
            | normal =>
              obtain ⟨g1, v, g2, g3⟩ := fin _ h
              exact ⟨g1, v, g2, v, rfl, g3⟩
            | ret =>
              obtain ⟨g1, v, g2, g3⟩ := fin _ h
              exact ⟨g1, v, g2, v, rfl, g3⟩
end Go.Sx
