/- A symbolic evaluator of closed terms: regions that draw their order are sound. -/
import Derived.Test.YtpainjecdolgiaaSxH
namespace Go.Sx
open Go Go.RowKit Go.Flo Go.Mem Go.Proofs.Ytpainjecdolgiaa
set_option linter.unusedVariables false
set_option linter.unusedSimpArgs false

/-- what an item says: an operation that was passed over, a store, or another one -/
theorem item_cases {env : Nat → Sc} {X : Ctx} {M : Mm} {ops : Array Oper} {tm : List A} {t : Tb} {nid top : Nat} {o : Oper} {it : It} (h : (item X M ops tm t nid top o).sel env = some it) :
    ∃ b tw, (wants X ops o ⟨t, tm, [], 0⟩).sel env = some (b, tw) ∧ ((b = false ∧ it = ⟨.tup [], [], none, tw⟩) ∨
      (b = true ∧ ∃ ty x y id off t1 z i t', o.op = .store ty x y ∧ cell1 tm tw x = some (.ptr id off, t1) ∧ part1 tm t1 y = some (z, t') ∧ X.P.info? ty = some i ∧ i.size = z.cells.length ∧ it = ⟨.junk, [], some (id, off, z.cells), t'⟩) ∨
      (b = true ∧ ∃ nid', (act X M tm tw nid top o).sel env = some (it.v, it.new, nid', it.t) ∧ it.st = none)) := by
  unfold item at h
  have q := Res.bind_ok h; clear h; obtain ⟨⟨b, tw⟩, h1, h⟩ := q
  refine ⟨b, tw, h1, ?_⟩
  cases b <;> simp only [cond_true, cond_false] at h
  · cases h; exact .inl ⟨rfl, rfl⟩
  · right
    split at h
    · rename_i ty x y ho
      left
      have q := Res.bind_ok h; clear h; obtain ⟨⟨x1, t1⟩, h2, h⟩ := q
      have q := Res.bind_ok h; clear h; obtain ⟨⟨y1, t2⟩, h3, h⟩ := q
      simp only at h
      split at h
      · rename_i id off
        split at h
        · rename_i i hi
          cases hb : Nat.beq i.size y1.cells.length <;> rw [hb] at h <;> simp only [cond_true, cond_false] at h
          · cases h
          · cases h
            exact ⟨rfl, ty, x, y, id, off, t1, y1, i, t2, ho, ofOpt_ok h2, ofOpt_ok h3, hi, beq_eq hb, rfl⟩
        · cases h
      · cases h
    · right
      have q := Res.bind_ok h; clear h; obtain ⟨⟨v, new, nid', t2⟩, h2, h⟩ := q
      cases h
      exact ⟨rfl, nid', h2, rfl⟩
theorem item_ext {env : Nat → Sc} {X : Ctx} (hX : CallExt env X) {M : Mm} {ops : Array Oper} {tm : List A} {t : Tb} {nid top : Nat} {o : Oper} {it : It} (h : (item X M ops tm t nid top o).sel env = some it) (hw : WF t) : Ext env t it.t := by
  obtain ⟨b, tw, hwt, hc⟩ := item_cases h
  have e0 : Ext env t tw := wants_ext hwt hw
  rcases hc with ⟨_, rfl⟩ | ⟨_, ty, x, y, id, off, t1, z, i, t', _, h2, h3, _, _, rfl⟩ | ⟨_, nid', h2, _⟩
  · exact e0
  · have e1 := e0.trans (cell1_ext (env := env) h2 e0.wf)
    exact e1.trans (part1_ext h3 e1.wf)
  · exact e0.trans (act_ext hX h2 e0.wf)
/-- the tables, one behind the other -/
theorem tab_ext {env : Nat → Sc} {X : Ctx} (hX : CallExt env X) {M : Nat → List It → Tb → Mm} {ops : Array Oper} {all : List Oper} {tmC : List A} {t0 : Tb} {base stride : Nat} {its : List It} (hw : WF t0) (hl : its.length = all.length)
    (g : ∀ k o, all[k]? = some o → ∃ it, its[k]? = some it ∧ (item X (M k (its.take k) (tabAt t0 its k)) ops (setDeps all (its.take k) tmC (depsOf o)) (tabAt t0 its k) (base + k * stride) (base + k * stride + stride) o).sel env = some it) :
    ∀ k, k ≤ its.length → Ext env t0 (tabAt t0 its k) ∧ ∀ j, j ≤ k → Ext env (tabAt t0 its j) (tabAt t0 its k) := by
  intro k
  induction k with
  | zero => intro _; exact ⟨Ext.refl hw, fun j hj => by have : j = 0 := by omega
                                                        subst this; exact Ext.refl hw⟩
  | succ k ih =>
    intro hk
    obtain ⟨h1, h2⟩ := ih (by omega)
    have hlt : k < all.length := by omega
    obtain ⟨it, hit, hi⟩ := g k all[k] (by simp [hlt])
    have e := item_ext hX hi h1.wf
    have ht : tabAt t0 its (k + 1) = it.t := by unfold tabAt; simp [hit]
    rw [ht]
    refine ⟨h1.trans e, fun j hj => ?_⟩
    by_cases hjk : j ≤ k
    · exact (h2 j hjk).trans e
    · have : j = k + 1 := by omega
      subst this
      rw [ht]; exact Ext.refl e.wf
theorem setAll_size : ∀ {l : List Oper} {its : List It} {tm : List A}, (setAll l its tm).length = tm.length
  | [], its, tm => by cases its <;> rfl
  | o :: l, [], tm => rfl
  | o :: l, it :: its, tm => by
    unfold setAll
    rw [setAll_size]
    cases o.dst <;> simp [putA, setT_eq]
theorem setAll_get : ∀ {l : List Oper} {its : List It} {tm : List A} {t : Nat} {y : A}, l.length = its.length → (setAll l its tm)[t]? = some y → (t ∉ Inv.dsts l ∧ tm[t]? = some y) ∨ ∃ (j : Nat) (o : Oper) (it : It), l[j]? = some o ∧ its[j]? = some it ∧ o.dst = some t ∧ y = it.v
  | [], its, tm, t, y, _, h => .inl ⟨by simp [Inv.dsts], by cases its <;> exact h⟩
  | o :: l, [], tm, t, y, hl, h => by simp at hl
  | o :: l, it :: its, tm, t, y, hl, h => by
    unfold setAll at h
    rcases setAll_get (by simpa using hl) h with ⟨h1, h2⟩ | ⟨j, o', it', h1, h2, h3, h4⟩
    · rcases putA_get h2 with ⟨h3, h4⟩ | ⟨h3, h4⟩
      · exact .inr ⟨0, o, it, rfl, rfl, h3, h4⟩
      · refine .inl ⟨?_, h4⟩
        unfold Inv.dsts
        cases hd : o.dst with
        | none => exact h1
        | some d =>
          simp only [List.mem_cons, not_or]
          exact ⟨fun e => h3 (by rw [hd, e]), h1⟩
    · exact .inr ⟨j + 1, o', it', by simpa using h1, by simpa using h2, h3, h4⟩
theorem putAll_defers (v : Nat → Value) : ∀ (l : List Oper) (n : Nat) (a : Act), (Inv.putAll a v n l).defers = a.defers
  | [], _, _ => rfl
  | o :: l, n, a => by unfold Inv.putAll; rw [putAll_defers v l]; cases o.dst <;> rfl

theorem Cb.back {env : Nat → Sc} {t0 T : Tb} {ms mss : Nat → Nat} {K Ks : Nat → Prop} (e : Ext env t0 T) {c : B} {v u : Value} (h : Cb (mkE env T ms K) c v) (g : Cb (mkE env t0 mss Ks) c u) : Cb (mkE env t0 ms K) c v := by
  cases c with
  | f32 i => obtain ⟨_, r, hv, hk⟩ := h; exact ⟨g.1, r, hv, hk.trans (congrArg Sc.fv (e.den i g.1))⟩
  | bit i p => obtain ⟨_, hv⟩ := h; exact ⟨g.1, hv.trans (congrArg (fun z : Sc => Value.bool (z.bv == p)) (e.den i g.1))⟩
  | num k i => obtain ⟨_, hv⟩ := h; exact ⟨g.1, hv.trans (congrArg (fun z : Sc => Value.int k z.iv) (e.den i g.1))⟩
  | bool b => exact h
  | int k n => exact h
  | ptr id off => exact h
theorem Cbs.back {env : Nat → Sc} {t0 T : Tb} {ms mss : Nat → Nat} {K Ks : Nat → Prop} (e : Ext env t0 T) : ∀ {cs : List B} {vs us : List Value}, F2 (Cb (mkE env T ms K)) cs vs → F2 (Cb (mkE env t0 mss Ks)) cs us → F2 (Cb (mkE env t0 ms K)) cs vs
  | _, _, _, .nil, _ => .nil
  | _, _, _, .cons a b, .cons c d => .cons (Cb.back e a c) (Cbs.back e b d)
theorem str_back {env : Nat → Sc} {t0 T : Tb} {ms mss ms' : Nat → Nat} {K Ks K' : Nat → Prop} (e : Ext env t0 T) : ∀ {ps : List St}, (∀ p ∈ ps, p.ok (mkE env t0 mss Ks)) → strB (mkE env T ms K) ps = strB (mkE env t0 ms' K') ps
  | [], _ => rfl
  | p :: ps, h => by
    show stB _ p ++ strB _ ps = stB _ p ++ strB _ ps
    rw [str_back (ms := ms) (K := K) (ms' := ms') (K' := K') e (ps := ps) fun q hq => h q (List.mem_cons_of_mem _ hq)]
    congr 1
    cases p with
    | byt n => rfl
    | hex i =>
      have hi : i < t0.n := h _ List.mem_cons_self
      show hexB (bitsN (den env T.l i).fv) = hexB (bitsN (den env t0.l i).fv)
      rw [e.den i hi]
theorem Cr.back {env : Nat → Sc} {t0 T : Tb} {ms mss : Nat → Nat} {K Ks : Nat → Prop} (e : Ext env t0 T) {c : C} {v u : Value} (h : Cr (mkE env T ms K) c v) (g : Cr (mkE env t0 mss Ks) c u) : Cr (mkE env t0 ms K) c v := by
  cases c with
  | f32 i => obtain ⟨_, r, hv, hk⟩ := h; exact ⟨g.1, r, hv, hk.trans (congrArg Sc.fv (e.den i g.1))⟩
  | f64 i => obtain ⟨_, r, hv, hk, hb⟩ := h; exact ⟨g.1, r, hv, hk.trans (congrArg Sc.fv (e.den i g.1)), hb⟩
  | bit i p => obtain ⟨_, hv⟩ := h; exact ⟨g.1, hv.trans (congrArg (fun z : Sc => Value.bool (z.bv == p)) (e.den i g.1))⟩
  | num k i => obtain ⟨_, hv⟩ := h; exact ⟨g.1, hv.trans (congrArg (fun z : Sc => Value.int k z.iv) (e.den i g.1))⟩
  | bool b => exact h
  | int k n => exact h
  | ptr id off => exact h
  | fn f caps => exact h
  | nilf => exact h
  | nilp => exact h
  | nils => exact h
  | slc id off len cap => exact h
  | ifc ty ag bs =>
    obtain ⟨vs, h1, h2⟩ := h
    obtain ⟨us, _, g2⟩ := g
    exact ⟨vs, h1, Cbs.back e h2 g2⟩
  | nili => exact h
  | str ps => exact ⟨g.1, by rw [h.2, str_back e g.1]⟩
theorem F2.back {env : Nat → Sc} {t0 T : Tb} {ms mss : Nat → Nat} {K Ks : Nat → Prop} (e : Ext env t0 T) : ∀ {cs : List C} {vs us : List Value}, F2 (Cr (mkE env T ms K)) cs vs → F2 (Cr (mkE env t0 mss Ks)) cs us → F2 (Cr (mkE env t0 ms K)) cs vs
  | _, _, _, .nil, _ => .nil
  | _, _, _, .cons a b, .cons c d => .cons (Cr.back e a c) (F2.back e b d)
theorem Cb.backN {env : Nat → Sc} {t0 T : Tb} {ms : Nat → Nat} {K : Nat → Prop} (e : Ext env t0 T) {c : B} {v : Value} (h : Cb (mkE env T ms K) c v) (g : ltB t0.n c = true) : Cb (mkE env t0 ms K) c v := by
  cases c <;> simp only [ltB] at g <;> simp only [Cb] at h ⊢
  · have hi := Nat.le_of_ble_eq_true g; exact ⟨hi, by rw [show (mkE env t0 ms K).D _ = (mkE env T ms K).D _ from (e.den _ hi).symm]; exact h.2⟩
  · have hi := Nat.le_of_ble_eq_true g; exact ⟨hi, by rw [show (mkE env t0 ms K).D _ = (mkE env T ms K).D _ from (e.den _ hi).symm]; exact h.2⟩
  · have hi := Nat.le_of_ble_eq_true g; exact ⟨hi, by rw [show (mkE env t0 ms K).D _ = (mkE env T ms K).D _ from (e.den _ hi).symm]; exact h.2⟩
  · exact h
  · exact h
  · exact h
theorem Cbs.backN {env : Nat → Sc} {t0 T : Tb} {ms : Nat → Nat} {K : Nat → Prop} (e : Ext env t0 T) : ∀ {cs : List B} {vs : List Value}, F2 (Cb (mkE env T ms K)) cs vs → cs.all (ltB t0.n) = true → F2 (Cb (mkE env t0 ms K)) cs vs
  | _, _, .nil, _ => .nil
  | _, _, .cons a b, h => by
    simp only [List.all_cons, Bool.and_eq_true] at h
    exact .cons (Cb.backN e a h.1) (Cbs.backN e b h.2)
theorem str_backN {env : Nat → Sc} {t0 T : Tb} {ms : Nat → Nat} {K : Nat → Prop} (e : Ext env t0 T) : ∀ {ps : List St}, ps.all (ltSt t0.n) = true → (∀ p ∈ ps, p.ok (mkE env t0 ms K)) ∧ strB (mkE env T ms K) ps = strB (mkE env t0 ms K) ps
  | [], _ => ⟨fun _ h => (by cases h), rfl⟩
  | p :: ps, h => by
    simp only [List.all_cons, Bool.and_eq_true] at h
    obtain ⟨g1, g2⟩ := str_backN e (ms := ms) (K := K) h.2
    have hp : p.ok (mkE env t0 ms K) ∧ stB (mkE env T ms K) p = stB (mkE env t0 ms K) p := by
      cases p with
      | byt n => exact ⟨trivial, rfl⟩
      | hex i =>
        have hi : i < t0.n := Nat.le_of_ble_eq_true h.1
        exact ⟨hi, by show hexB (bitsN (den env T.l i).fv) = hexB (bitsN (den env t0.l i).fv); rw [e.den i hi]⟩
    refine ⟨fun q hq => ?_, ?_⟩
    · rcases List.mem_cons.1 hq with rfl | hq
      · exact hp.1
      · exact g1 q hq
    · show stB _ p ++ strB _ ps = stB _ p ++ strB _ ps
      rw [hp.2, g2]
theorem Cr.backN {env : Nat → Sc} {t0 T : Tb} {ms : Nat → Nat} {K : Nat → Prop} (e : Ext env t0 T) {c : C} {v : Value} (h : Cr (mkE env T ms K) c v) (g : ltC t0.n c = true) : Cr (mkE env t0 ms K) c v := by
  cases c <;> simp only [ltC] at g <;> simp only [Cr] at h ⊢
  · have hi := Nat.le_of_ble_eq_true g; exact ⟨hi, by rw [show (mkE env t0 ms K).D _ = (mkE env T ms K).D _ from (e.den _ hi).symm]; exact h.2⟩
  · have hi := Nat.le_of_ble_eq_true g; exact ⟨hi, by rw [show (mkE env t0 ms K).D _ = (mkE env T ms K).D _ from (e.den _ hi).symm]; exact h.2⟩
  · have hi := Nat.le_of_ble_eq_true g; exact ⟨hi, by rw [show (mkE env t0 ms K).D _ = (mkE env T ms K).D _ from (e.den _ hi).symm]; exact h.2⟩
  · have hi := Nat.le_of_ble_eq_true g; exact ⟨hi, by rw [show (mkE env t0 ms K).D _ = (mkE env T ms K).D _ from (e.den _ hi).symm]; exact h.2⟩
  · exact h
  · exact h
  · exact h
  · exact h
  · exact h
  · exact h
  · exact h
  · exact h
  · obtain ⟨vs, h1, h2⟩ := h; exact ⟨vs, h1, Cbs.backN e h2 g⟩
  · exact h
  · obtain ⟨g1, g2⟩ := str_backN e (ms := ms) (K := K) g
    exact ⟨g1, by rw [← g2]; exact h.2⟩
theorem F2.backN {env : Nat → Sc} {t0 T : Tb} {ms : Nat → Nat} {K : Nat → Prop} (e : Ext env t0 T) : ∀ {cs : List C} {vs : List Value}, F2 (Cr (mkE env T ms K)) cs vs → cs.all (ltC t0.n) = true → F2 (Cr (mkE env t0 ms K)) cs vs
  | _, _, .nil, _ => .nil
  | _, _, .cons a b, h => by
    simp only [List.all_cons, Bool.and_eq_true] at h
    exact .cons (Cr.backN e a h.1) (F2.backN e b h.2)
theorem newFrom_mem {all : List Oper} {i n : Nat} : ∀ {l : List It} {j : Nat} {x : Nat × List C}, x ∈ newFrom all i n l j → ∃ k it, l[k]? = some it ∧ x ∈ it.new ∧ madeFor all i (j + k) = true ∧ x.2.all (ltC n) = true
  | [], j, x, h => by cases h
  | it :: l, j, x, h => by
    have tail : x ∈ newFrom all i n l (j + 1) → ∃ k it', (it :: l)[k]? = some it' ∧ x ∈ it'.new ∧ madeFor all i (j + k) = true ∧ x.2.all (ltC n) = true := fun h => by
      obtain ⟨k, it', h1, h2, h3, h4⟩ := newFrom_mem h
      exact ⟨k + 1, it', by simpa using h1, h2, by rw [show j + (k + 1) = j + 1 + k by omega]; exact h3, h4⟩
    unfold newFrom at h
    split at h
    · exact tail h
    · rename_i y ys hy
      rcases List.mem_append.1 h with h | h
      · cases hm : madeFor all i j <;> rw [hm] at h <;> simp only [cond_true, cond_false] at h
        · cases h
        · obtain ⟨h1, h2⟩ := List.mem_filter.1 h
          exact ⟨0, it, rfl, by rw [hy]; exact h1, hm, h2⟩
      · exact tail h
theorem drawn_ext {env : Nat → Sc} : DrawnExt env drawn := by
  intro X hX rd top ops s s' h hw
  unfold drawn at h
  (try simp only at h)
  have q := Res.bind_ok h; clear h; obtain ⟨its, h2, h⟩ := q
  (try simp only at h2 h)
  split at h
  · generalize (distinctN _ && _) = chk at h
    cases chk <;> simp only [cond_true, cond_false] at h
    · cases h
    · cases h
      obtain ⟨g1, g4⟩ := pass_all h2
      have := (tab_ext hX hw g1 g4 its.length (Nat.le_refl _)).1
      rw [← lastT_eq _ _ _ rfl] at this
      exact this
  · cases h
theorem drawn_sound {env : Nat → Sc} {Pm : Program} (hm : Pm.follows .mixedOrders = true) : DrawnOk env Pm drawn := by
  intro X hXP hX hXE rd lo top ms0 K0 t0 w0 id ops s s' a W h hr Q hQ
  obtain ⟨mss, Ks, r, l, hr⟩ := hr
  unfold drawn at h
  (try simp only at h)
  have q := Res.bind_ok h; clear h; obtain ⟨its, h2, h⟩ := q
  (try simp only at h2 h)
  generalize hstr : (top - s.nid) / (2 * ops.toList.length + 2) = stride at h2 h
  generalize hsts : storesIn ops.toList s.tm ops.toList 0 = sts at h2 h
  generalize hall : ops.toList = all at h2 h
  have hops : ops = all.toArray := by rw [← hall]
  split at h
  · rename_i b0 b1 hb0 hb1
    generalize hchk : (distinctN _ && _) = chk at h
    cases chk <;> simp only [cond_true, cond_false] at h
    · cases h
    · simp only [Bool.and_eq_true] at hchk
      obtain ⟨c1, c3, c4, c5, c6⟩ := hchk
      cases h
      obtain ⟨g1, g4⟩ := pass_all h2
      rw [hall] at g4
      have htab := tab_ext hXE hr.ext.wf g1 g4
      generalize hTT : lastT s.t its = T at hQ
      have hTe : T = tabAt s.t its its.length := by rw [← hTT]; exact lastT_eq _ _ _ rfl
      have hext : Ext env s.t T := by rw [hTe]; exact (htab its.length (Nat.le_refl _)).1
      have hitT : ∀ k it, its[k]? = some it → Ext env it.t T ∧ tabAt s.t its (k + 1) = it.t := fun k it hk => by
        have hlt := (List.getElem?_eq_some_iff.1 hk).1
        have ht : tabAt s.t its (k + 1) = it.t := by unfold tabAt; simp [hk]
        refine ⟨?_, ht⟩
        rw [hTe, ← ht]
        exact (htab its.length (Nat.le_refl _)).2 (k + 1) (by omega)
      have hfT := hext.fk hr.facts
      have hupE := hext.up mss Ks
      have hnd : ((b1 ++ b0).map (·.id)).Nodup := distinctN_nodup c1
      obtain ⟨n1, n2⟩ := newBlks_spec hb1
      obtain ⟨n3, n4⟩ := blksOf_spec hb0
      have hc3 : ∀ x ∈ storesOf its 0, (∀ b ∈ b0, b.id = x.2.1 → (x.1, b.id) ∈ sts) ∧ x.2.1 ∈ (b1 ++ b0).map (·.id) := fun x hx => by
        have := List.all_eq_true.1 c3 x hx
        simp only [Bool.and_eq_true, List.contains_eq_mem, decide_eq_true_eq] at this
        refine ⟨fun b hb he => ?_, this.2⟩
        have h1 := List.all_eq_true.1 this.1 b hb
        simp only [Bool.or_eq_true, Bool.not_eq_true', List.any_eq_true, Bool.and_eq_true] at h1
        rcases h1 with h1 | ⟨y, hy, g1, g2⟩
        · rw [he] at h1; simp at h1
        · have e1 := beq_eq g1; have e2 := beq_eq g2
          obtain ⟨y1, y2⟩ := y
          simp only at e1 e2
          subst e1; subst e2; exact hy
      -- what is known of the blocks
      have hbase : ∀ b ∈ b1 ++ b0, b.owner = none → (b.id, b.c0) ∈ s.own := fun b hb hown => by
        rcases List.mem_append.1 hb with hb | hb
        · obtain ⟨k, it, _, x, _, hx⟩ := n1 b hb
          obtain ⟨q1, _⟩ := blkOf_spec hx
          rw [hown] at q1; cases q1
        · obtain ⟨x, hx1, hx⟩ := n3 b hb
          obtain ⟨_, q2, q3, _⟩ := blkOf_spec hx
          rw [q2, q3]; exact hx1
      have hnewB : ∀ b ∈ b1 ++ b0, ∀ i, b.owner = some i → ∃ it, its[i]? = some it ∧ (b.id, b.c0) ∈ it.new := fun b hb i hown => by
        rcases List.mem_append.1 hb with hb | hb
        · obtain ⟨k, it, hk, x, hx1, hx⟩ := n1 b hb
          obtain ⟨q1, q2, q3, _⟩ := blkOf_spec hx
          rw [hown, Nat.zero_add] at q1
          cases q1
          exact ⟨it, hk, by rw [q2, q3]; exact hx1⟩
        · obtain ⟨x, hx1, hx⟩ := n3 b hb
          obtain ⟨q1, _⟩ := blkOf_spec hx
          rw [hown] at q1; cases q1
      have hstB : ∀ b ∈ b1 ++ b0, b.st = storesTo b.id (storesOf its 0) ∧ chained all b.st = true ∧ ∀ y ∈ b.st, (y.1, b.id, y.2) ∈ storesOf its 0 ∧ y.2.1 + y.2.2.length ≤ b.c0.length ∧ ∀ j, b.owner = some j → ∃ o, all[y.1]? = some o ∧ j ∈ depsOf o := fun b hb => by
        have key : ∀ (owner : Option Nat) (x : Nat × List C), blkOf all (storesOf its 0) owner x = some b → b.st = storesTo b.id (storesOf its 0) ∧ chained all b.st = true ∧ ∀ y ∈ b.st, (y.1, b.id, y.2) ∈ storesOf its 0 ∧ y.2.1 + y.2.2.length ≤ b.c0.length ∧ ∀ j, b.owner = some j → ∃ o, all[y.1]? = some o ∧ j ∈ depsOf o := fun owner x hx => by
          obtain ⟨q1, q2, q3, q4, q5, q6⟩ := blkOf_spec hx
          refine ⟨by rw [q4, q2], q5, fun y hy => ⟨?_, by rw [q3]; exact (q6 y hy).1, fun j hj => (q6 y hy).2 j (by rw [← q1]; exact hj)⟩⟩
          rw [q4] at hy
          rw [q2]; exact storesTo_iff.1 hy
        rcases List.mem_append.1 hb with hb | hb
        · obtain ⟨k', it, _, x, _, hx⟩ := n1 b hb; exact key _ x hx
        · obtain ⟨x, _, hx⟩ := n3 b hb; exact key _ x hx
      have hitB : ∀ b ∈ b1 ++ b0, ∀ y ∈ b.st, ∃ it, its[y.1]? = some it ∧ it.st = some (b.id, y.2) := fun b hb y hy => by
        obtain ⟨h5, _⟩ := (hstB b hb).2.2 y hy
        obtain ⟨k', it, e1, e2, e3⟩ := storesOf_mem h5
        have : y.1 = k' := by simpa using e1
        rw [this]
        exact ⟨it, e2, e3⟩
      have hbown : ∀ x ∈ s.own.filter (fun x => !(sts.map (·.2)).contains x.1), ∃ b ∈ b1 ++ b0, b.owner = none ∧ b.id = x.1 ∧ x.1 ∉ sts.map (·.2) := fun x hx => by
        obtain ⟨hx1, hx2⟩ := List.mem_filter.1 hx
        obtain ⟨b, hb, hbx⟩ := n4 x hx1
        obtain ⟨q1, q2, q3, q4⟩ := blkOf_spec hbx
        exact ⟨b, List.mem_append_right _ hb, q1, q2, by simpa using hx2⟩
      rw [hops]
      refine Inv.wp_region_flow (F := fun L v W => ∃ ms K, Fl env rd w0 all its (b1 ++ b0) s.t T (s.own.filter (fun x => !(sts.map (·.2)).contains x.1)) s.nid stride mss Ks r L v W ms K) (by rw [hXP]; exact hm) (by rw [← hops]; exact c5) (by rw [← (by simpa using F2.length hr.tm : s.tm.length = a.tmps.size)]; exact c6) (fun v => ⟨mss, Ks, ?_⟩) (flow_of (fun i o ho L v W a1 hF hL hd hin hout Kont hK => ?_) all 0 (fun k => by rw [Nat.zero_add])) (fun L v W' hLall hF => ?_)
      -- at the beginning
      · have hone : ∀ b ∈ b1 ++ b0, b.here (fun _ => false) → ∃ (p : Nat) (y : Nat × List Value), s.own[p]? = some (b.id, b.c0) ∧ l[p]? = some y ∧ Br (mkE env s.t mss Ks) (b.id, b.c0) y ∧ b.cont (fun _ => false) = b.c0 := fun b hb hh => by
          have hown : b.owner = none := by
            unfold Blk.here at hh
            cases ho : b.owner with
            | none => rfl
            | some j => rw [ho] at hh; cases hh
          obtain ⟨p, hp⟩ := List.getElem?_of_mem (hbase b hb hown)
          obtain ⟨y, hy, hbr⟩ := hr.own.get hp
          exact ⟨p, y, hp, hy, hbr, foldC_none fun _ _ => rfl⟩
        refine ⟨fun i hi => ⟨hi, rfl⟩, fun i hi => .inl hi, fun j it hj _ => (by cases hj), fun k o _ hk => (by cases hk), ?_, hr.rdr, fun x hx => ?_, fun b hb hh => ?_, fun b hb b' hb' hh hh' he => ?_⟩
        · have := hr.mem.drew
          exact ⟨this.below, this.old, fun x hx => (by cases hx), List.nodup_nil⟩
        · obtain ⟨y, hy, k1, k2, k3⟩ := F2.mem hr.own x (List.mem_filter.1 hx).1
          obtain ⟨y1, y2⟩ := y
          have k2' : y1 = mss x.1 := k2
          subst k2'
          exact ⟨k1, y2, k3, Mem.only hr.mem.drew hy⟩
        · obtain ⟨p, ⟨y1, y2⟩, _, hy, ⟨k1, k2, k3⟩, hc⟩ := hone b hb hh
          have k2' : y1 = mss b.id := k2
          subst k2'
          exact ⟨k1, y2, by rw [hc]; exact k3.mono fun _ _ => Cr.mono hupE, Mem.only hr.mem.drew (List.mem_of_getElem? hy)⟩
        · obtain ⟨p, y, a1, a2, ⟨_, a3, _⟩, _⟩ := hone b hb hh
          obtain ⟨p', y', d1, d2, ⟨_, d3, _⟩, _⟩ := hone b' hb' hh'
          have a3' : y.1 = mss b.id := a3
          have d3' : y'.1 = mss b'.id := d3
          have hlt : p < (l.map (·.1)).length := by simp; exact (List.getElem?_eq_some_iff.1 a2).1
          have hpp : p = p' := (List.getElem?_inj hlt hr.mem.apart).1 (by simp only [List.getElem?_map, a2, d2, Option.map_some, a3', d3', he])
          subst hpp
          rw [a1] at d1
          simp only [Option.some.injEq, Prod.mk.injEq] at d1
          exact d1.1
      -- an operation
      · obtain ⟨ms, K, hF⟩ := hF
        obtain ⟨it, hit, hitem⟩ := g4 i o ho
        obtain ⟨hitT1, hitT2⟩ := hitT i it hit
        have hil : i < its.length := (List.getElem?_eq_some_iff.1 hit).1
        obtain ⟨hti, htj⟩ := htab i (by omega)
        have hdep : ∀ j ∈ depsOf o, L j = true := fun j hj => by
          obtain ⟨e, he, hb, rfl⟩ := depsOf_mem hj
          exact hd e he hb
        have hleS : (mkE env s.t mss Ks).le (mkE env (tabAt s.t its i) ms K) := ⟨hti.le, hti.den, fun i hi => (hF.old i hi).1, fun i hi => (hF.old i hi).2⟩
        have htmC : TmOk (mkE env (tabAt s.t its i) ms K) (clearT s.tm all) a1 := fun t y hy => by
          rcases clearT_get hy with rfl | ⟨hnot, hy⟩
          · trivial
          · rw [hout t (by simpa using hnot)]
            exact ((TmOk.of hr.tm) t y hy).mono hleS
        have htm : TmOk (mkE env (tabAt s.t its i) ms K) (setDeps all (its.take i) (clearT s.tm all) (depsOf o)) a1 := setDeps_ok htmC fun j hj o' it' ho' hit' d hd' => by
          rw [hin j o' d ho' hd']
          have hlt : j < i := by
            have := (List.getElem?_eq_some_iff.1 hit').1
            simp at this; omega
          rw [List.getElem?_take_of_lt hlt] at hit'
          have := htj (j + 1) (by omega)
          rw [(hitT j it' hit').2] at this
          exact (hF.vals j it' (hdep j hj) hit').mono (this.up ms K)
        have hfi := hti.fk hr.facts
        rw [hops] at hitem
        obtain ⟨b, tw, hwant, hcase⟩ := item_cases hitem
        have ew : Ext env (tabAt s.t its i) tw := wants_ext hwant hti.wf
        have htw := hti.trans ew
        have htmw := tm_up ew htm
        have hfw := ew.fk hfi
        have hwanted := wantsD_sound (env := env) (ms := ms) (K := K) hwant hti.wf htm hfi
        rw [hwanted]
        have hstI : it.st = none → ∀ b ∈ b1 ++ b0, ∀ y ∈ b.st, y.1 = i → False := fun hn b hb y hy he => by
          obtain ⟨it', e1, e2⟩ := hitB b hb y hy
          rw [he, hit] at e1; cases e1
          rw [hn] at e2; cases e2
        have hnewI : ∀ b ∈ b1 ++ b0, b.owner = some i → (b.id, b.c0) ∈ it.new ∧ ∀ y ∈ b.st, ∃ o', all[y.1]? = some o' ∧ i ∈ depsOf o' := fun b hb hown => by
          obtain ⟨it', e1, e2⟩ := hnewB b hb i hown
          rw [hit] at e1; cases e1
          exact ⟨e2, fun y hy => ((hstB b hb).2.2 y hy).2.2 i hown⟩
        rcases hcase with ⟨rfl, hit2⟩ | ⟨rfl, ty, x, y, bid, off, tx, z, inf, ty2, hop, hx, hz, hinf, hsz, hit2⟩ | ⟨rfl, nid', hact, hst⟩
        · rw [if_neg (by simp)]
          refine hK.out undef W ?_
          refine hF.grow (ti := tw) (nid' := s.nid + i * stride) hext.wf ho hL hdep hit hitT1 ?_ (hstI (by rw [hit2])) hnewI
          rw [hit2]
          exact done_same 0 (Ext.refl htw.wf) ⟨[], rfl, .nil⟩
        · rw [if_pos rfl]
          obtain ⟨e1, r1⟩ := cell1_sound hx htw.wf htmw
          obtain ⟨e2, r2⟩ := part1_sound hz e1.wf (tm_up e1 htmw)
          obtain ⟨hk, hxv⟩ := r1
          have hxv' : a1.eval x = .pointer (some ⟨ms bid, off, none⟩) := hxv
          have hty : it.t = ty2 := by rw [hit2]
          have hle1 : (mkE env ty2 ms K).le (mkE env T ms K) := by rw [← hty]; exact hitT1.up ms K
          have hin2 : (i, bid, off, z.cells) ∈ storesOf its 0 := by
            have := mem_storesOf (n := 0) hit (by rw [hit2])
            rw [Nat.zero_add] at this; exact this
          obtain ⟨_, hmem⟩ := hc3 _ hin2
          obtain ⟨b, hb, hbid⟩ := List.mem_map.1 hmem
          have hbid' : b.id = bid := hbid
          subst hbid'
          obtain ⟨hS1, hS2, hS3⟩ := hstB b hb
          have hyin : (i, off, z.cells) ∈ b.st := by rw [hS1]; exact storesTo_iff.2 hin2
          obtain ⟨pre, post, hsplit⟩ := List.append_of_mem hyin
          have hnodup : (b.st.map (·.1)).Nodup := by rw [hS1]; exact storesTo_nodup storesOf_nodup
          rw [hsplit, List.map_append, List.map_cons] at hnodup
          have hpre : ∀ y ∈ pre, y.1 ≠ i := fun y hy he => by
            have := (List.nodup_append.1 hnodup).2.2 y.1 (List.mem_map.2 ⟨y, hy, rfl⟩) i List.mem_cons_self
            exact this he
          have hpost : ∀ y ∈ post, y.1 ≠ i ∧ L y.1 = false := fun y hy => by
            have h1 := (List.nodup_cons.1 (List.nodup_append.1 hnodup).2.1).1
            refine ⟨fun he => h1 (List.mem_map.2 ⟨y, hy, he⟩), ?_⟩
            have hr := chained_behind (by rw [← hsplit]; exact hS2) y hy
            cases hLy : L y.1 with
            | false => rfl
            | true =>
              have := reach_up hF.dc 12 hr hLy
              rw [hL] at this; cases this
          have q3 := (hS3 _ hyin).2.1
          have q4 := (hS3 _ hyin).2.2
          · have hhere : b.here L := by
              unfold Blk.here
              cases hown : b.owner with
              | none => trivial
              | some j =>
                obtain ⟨o', ho', hj⟩ := q4 j hown
                rw [ho] at ho'; cases ho'
                exact hdep j hj
            have hcells : F2 (Cr (mkE env T ms K)) z.cells (a1.eval y).cells.toList := r2.cells.mono fun _ _ => Cr.mono hle1
            obtain ⟨hth, hFl⟩ := hF.stored ho hdep hit (by rw [hit2]) hb hnd hsplit hpre hpost hL hhere q3 hcells
              (fun b' hb' hown => by
                obtain ⟨it', f1, f2⟩ := hnewB b' hb' i hown
                rw [hit] at f1; cases f1
                rw [hit2] at f2; cases f2)
              (fun b' hb' y' hy' he' => by
                obtain ⟨it', f1, f2⟩ := hitB b' hb' y' hy'
                rw [he', hit] at f1; cases f1
                rw [hit2] at f2
                simp only [Option.some.injEq, Prod.mk.injEq] at f2
                exact f2.1.symm)
              (fun x hx => by
                obtain ⟨b', hb', hbo, hbi, hni⟩ := hbown x hx
                refine ⟨fun he => ?_, b', hb', hbi, by unfold Blk.here; rw [hbo]; trivial⟩
                have hb0 : b' ∈ b0 := by
                  rcases List.mem_append.1 hb' with hb' | hb'
                  · obtain ⟨k, it, _, x, _, hx⟩ := n1 b' hb'
                    obtain ⟨q1, _⟩ := blkOf_spec hx
                    rw [hbo] at q1; cases q1
                  · exact hb'
                exact hni (by rw [← hbi]; exact List.mem_map.2 ⟨_, (hc3 _ hin2).1 b' hb0 (by rw [hbi, he]), rfl⟩)) undef
            have hlen := F2.length hcells
            have hrun := run_store_any (P := X.P) (t := ty) hth rfl (by rw [hinf]; simp only [Option.map_some, Option.some.injEq]; rw [hsz, hlen]) (all_cells hcells)
            unfold Oper.wp execOp
            simp only [hop, hxv', Sem.run_bind, hrun, Result.andThen_ok, Sem.run_pure]
            exact hK.out undef _ ⟨ms, K, hFl⟩
        · rw [if_pos rfl]
          have hfresh : ∀ j, s.nid + i * stride ≤ j → j < s.nid + i * stride + stride → ¬ K j := fun j hj1 hj2 hj => by
            have hil : i < all.length := (List.getElem?_eq_some_iff.1 ho).1
            have hle : s.nid + all.length * stride ≤ top := Nat.le_of_ble_eq_true c4
            rcases hF.rng j hj with hj | ⟨k, hk1, hk2, hk3, hk4⟩
            · have hmul : (i + 1) * stride ≤ all.length * stride := Nat.mul_le_mul_right _ hil
              have hs1 : (i + 1) * stride = i * stride + stride := Nat.succ_mul i stride
              rcases hr.rng j hj with hj | ⟨_, hj, _⟩
              · exact hr.fresh j (Nat.le_trans hr.low (by omega)) (by omega) hj
              · omega
            · have : k = i := by
                rcases Nat.lt_trichotomy k i with hlt | heq | hgt
                · have h1 : (k + 1) * stride ≤ i * stride := Nat.mul_le_mul_right _ hlt
                  have h2 : (k + 1) * stride = k * stride + stride := Nat.succ_mul k stride
                  omega
                · exact heq
                · have h1 : (i + 1) * stride ≤ k * stride := Nat.mul_le_mul_right _ hgt
                  have h2 : (i + 1) * stride = i * stride + stride := Nat.succ_mul i stride
                  omega
              subst this
              rw [hL] at hk1; cases hk1
          have hread0 : ReadOk (mkE env tw ms K) W (memAt all sts s.own i ++ rd) := by
            have h1 : ∃ r1, F2 (Br (mkE env s.t ms K)) (memAt all sts s.own i) r1 ∧ ∀ y ∈ r1, y.1 < W.heap.size ∧ W.rangeAt y.1 0 y.2 := by
              refine F2.choose fun x hx => ?_
              obtain ⟨hx1, hx2⟩ := List.mem_filter.1 hx
              by_cases hin : x.1 ∈ sts.map (·.2)
              · obtain ⟨b, hb, hbx⟩ := n4 x hx1
                obtain ⟨q1, q2, q3, q4⟩ := blkOf_spec hbx
                have hbm : b ∈ b1 ++ b0 := List.mem_append_right _ hb
                obtain ⟨k1, vs, k2, k3⟩ := hF.blk b hbm (by unfold Blk.here; rw [q1]; trivial)
                have hcont : b.cont L = x.2 := by
                  rw [← q3]
                  refine foldC_none fun y hy => ?_
                  have h5 := ((hstB b hbm).2.2 y hy).1
                  have hmem := (hc3 _ h5).1 b hb rfl
                  have h6 := List.all_eq_true.1 hx2 _ hmem
                  simp only [q2] at h6
                  rw [show Nat.beq x.1 x.1 = true from Nat.beq_refl _] at h6
                  simp only [cond_true] at h6
                  cases hLk : L y.1 with
                  | false => rfl
                  | true =>
                    have := reach_up hF.dc 12 h6 hLk
                    rw [hL] at this; cases this
                obtain ⟨y, hy, _, _, k6⟩ := F2.mem hr.own x hx1
                rw [hcont] at k2
                have := k3.new _ List.mem_cons_self
                exact ⟨(ms x.1, vs), ⟨by rw [← q2]; exact k1, rfl, F2.back hext k2 k6⟩, by rw [← q2]; exact this.2.1, by rw [← q2]; exact this.2.2.1⟩
              · obtain ⟨k1, vs, k2, k3⟩ := hF.frz x (List.mem_filter.2 ⟨hx1, by simpa using hin⟩)
                have := k3.new _ List.mem_cons_self
                exact ⟨(ms x.1, vs), ⟨k1, rfl, k2⟩, this.2.1, this.2.2.1⟩
            obtain ⟨r1, h2, h3⟩ := h1
            refine ⟨r1 ++ r, (h2.append hF.rdr).mono fun _ _ => Br.mono (htw.up ms K), fun x hx => ?_⟩
            rcases List.mem_append.1 hx with hx | hx
            · exact h3 x hx
            · exact ⟨Nat.lt_of_lt_of_le (hF.mem.old x hx).1 hF.mem.below.size, (hF.mem.old x hx).2⟩
          have hread : ReadOk (mkE env tw ms K) W (mayRead all sts s.own rd i (its.take i) (tabAt s.t its i)) := by
            obtain ⟨ra, hra1, hra2⟩ := hread0
            have h1 : ∃ r1, F2 (Br (mkE env (tabAt s.t its i) ms K)) (newFrom all i (tabAt s.t its i).n (its.take i) 0) r1 ∧ ∀ y ∈ r1, y.1 < W.heap.size ∧ W.rangeAt y.1 0 y.2 := by
              refine F2.choose fun x hx => ?_
              obtain ⟨j, itj, hj1, hj2, hj3, hj4⟩ := newFrom_mem hx
              rw [Nat.zero_add] at hj3
              have hji : j < i := by
                have := (List.getElem?_eq_some_iff.1 hj1).1
                simp at this; omega
              rw [List.getElem?_take_of_lt hji] at hj1
              unfold madeFor at hj3
              simp only [Bool.and_eq_true, List.all_eq_true] at hj3
              obtain ⟨hj5, hj6⟩ := hj3
              obtain ⟨b, hb, hbx⟩ := n2 j itj x hj1 hj2
              rw [Nat.zero_add] at hbx
              obtain ⟨q1, q2, q3, q4⟩ := blkOf_spec hbx
              have hbm : b ∈ b1 ++ b0 := List.mem_append_left _ hb
              have hLj : L j = true := by
                unfold reachB at hj5
                rw [ho] at hj5
                simp only at hj5
                obtain ⟨d, hd1, hd2⟩ := List.any_eq_true.1 hj5
                cases he : Nat.beq d j <;> rw [he] at hd2 <;> simp only [cond_true, cond_false] at hd2
                · exact reach_up hF.dc 11 hd2 (hdep d hd1)
                · rw [← beq_eq he]; exact hdep d hd1
              obtain ⟨k1, vs, k2, k3⟩ := hF.blk b hbm (by unfold Blk.here; rw [q1]; exact hLj)
              have hcont : b.cont L = x.2 := by
                rw [← q3]
                refine foldC_none fun y hy => ?_
                obtain ⟨ity, e1, e2⟩ := hitB b hbm y hy
                obtain ⟨oy, o1, o2⟩ := ((hstB b hbm).2.2 y hy).2.2 j q1
                have hst : isStore oy = true := by
                  obtain ⟨it2, f1, f2⟩ := g4 y.1 oy o1
                  rw [e1] at f1; cases f1
                  rw [hops] at f2
                  obtain ⟨_, _, _, hc⟩ := item_cases f2
                  rcases hc with ⟨_, rfl⟩ | ⟨_, ty, x', y', _, _, _, _, _, _, hop, _⟩ | ⟨_, _, _, hn⟩
                  · cases e2
                  · unfold isStore; rw [hop]
                  · rw [hn] at e2; cases e2
                have hlt : y.1 < all.length := (List.getElem?_eq_some_iff.1 o1).1
                have h6 := hj6 y.1 (List.mem_range.2 hlt)
                rw [o1] at h6
                simp only [hst, List.contains_eq_mem, decide_eq_true o2, Bool.and_self, cond_true] at h6
                cases hLk : L y.1 with
                | false => rfl
                | true =>
                  have := reach_up hF.dc 12 h6 hLk
                  rw [hL] at this; cases this
              rw [hcont] at k2
              have := k3.new _ List.mem_cons_self
              have hTi : Ext env (tabAt s.t its i) T := by rw [hTe]; exact (htab its.length (Nat.le_refl _)).2 i (by omega)
              exact ⟨(ms x.1, vs), ⟨by rw [← q2]; exact k1, rfl, F2.backN hTi k2 hj4⟩, by rw [← q2]; exact this.2.1, by rw [← q2]; exact this.2.2.1⟩
            obtain ⟨r1, h2, h3⟩ := h1
            refine ⟨ra ++ r1, hra1.append (h2.mono fun _ _ => Br.mono (ew.up ms K)), fun x hx => ?_⟩
            rcases List.mem_append.1 hx with hx | hx
            · exact hra2 x hx
            · exact h3 x hx
          refine act_sound hX hact ⟨htw.wf, hread, htmw, hfresh, hfw⟩ fun v' W' hD => ?_
          exact hK.out v' W' (hF.grow (nid' := nid') (ti := tw) hext.wf ho hL hdep hit hitT1 hD (hstI hst) hnewI)
      -- behind the region
      · obtain ⟨ms, K, hF⟩ := hF
        have hLi : ∀ i, i < all.length → L i = true := fun i hi => hLall i (Nat.ble_eq_true_of_le hi)
        have hleS : (mkE env s.t mss Ks).le (mkE env T ms K) := ⟨hext.le, hext.den, fun i hi => (hF.old i hi).1, fun i hi => (hF.old i hi).2⟩
        have hhere : ∀ b ∈ b1 ++ b0, b.here L := fun b hb => by
          unfold Blk.here
          cases hown : b.owner with
          | none => trivial
          | some j =>
            obtain ⟨it, e1, _⟩ := hnewB b hb j hown
            exact hLi j (by rw [← g1]; exact (List.getElem?_eq_some_iff.1 e1).1)
        have hlast : ∀ b ∈ b1 ++ b0, b.last = (b.id, b.cont L) := fun b hb => by
          unfold Blk.last Blk.cont
          rw [foldC_all fun y hy => ?_]
          obtain ⟨it, e1, _⟩ := hitB b hb y hy
          exact hLi y.1 (by rw [← g1]; exact (List.getElem?_eq_some_iff.1 e1).1)
        have hsz : s.tm.length = a.tmps.size := by simpa using F2.length hr.tm
        have hle : s.nid + all.length * stride ≤ top := Nat.le_of_ble_eq_true c4
        obtain ⟨ll, f1, f2⟩ : ∃ ll, F2 (Br (mkE env T ms K)) ((b1 ++ b0).map Blk.last) ll ∧ ∀ y ∈ ll, Mem w0 W' r [y] := by
          refine F2.choose fun x hx => ?_
          obtain ⟨b, hb, rfl⟩ := List.mem_map.1 hx
          obtain ⟨k1, vs, k2, k3⟩ := hF.blk b hb (hhere b hb)
          rw [hlast b hb]
          exact ⟨(ms b.id, vs), ⟨k1, rfl, k2⟩, k3⟩
        refine hQ _ _ ⟨ms, K, r, ll, hr.ext.trans hext, hfT, fun i hi => ?_, fun i hi => ?_, ?_, hr.fresh, ?_, ?_, Mem.gather hF.mem f2 ?_, f1, hF.rdr.mono fun _ _ => Br.mono (hext.up ms K)⟩
        · obtain ⟨a1, a2⟩ := hr.old i hi
          obtain ⟨d1, d2⟩ := hF.old i a1
          exact ⟨d1, d2.trans a2⟩
        · have hlow := hr.low
          rcases hF.rng i hi with hi | ⟨j, _, hj, h5, h6⟩
          · rcases hr.rng i hi with hi | ⟨h1, h2, h3⟩
            · exact .inl hi
            · exact .inr ⟨h1, by show i < s.nid + all.length * stride; omega, h3⟩
          · have h7 : (j + 1) * stride ≤ all.length * stride := Nat.mul_le_mul_right _ hj
            have h8 : (j + 1) * stride = j * stride + stride := Nat.succ_mul j stride
            exact .inr ⟨by omega, by show i < s.nid + all.length * stride; omega, by omega⟩
        · have := hr.low
          show lo ≤ s.nid + all.length * stride
          omega
        · have hsz2 : (setAll all its s.tm).length = (Inv.putAll a v 0 all).tmps.toList.length := by
            rw [setAll_size, Array.length_toList, Inv.putAll_size, hsz]
          refine F2.of_get hsz2 fun i y z hy hz => ?_
          have hev : ∀ t, (Inv.putAll a v 0 all).eval (.tmp t) = (Inv.putAll a v 0 all).tmps.getD t undef := fun t => rfl
          have hz' : (Inv.putAll a v 0 all).eval (.tmp i) = z := by
            rw [hev, Array.getD_eq_getD_getElem?, ← Array.getElem?_toList, hz]; rfl
          rw [← hz']
          have htidy : Inv.tidy s.tm.length all = true := c6
          unfold Inv.tidy at htidy
          simp only [Bool.and_eq_true, decide_eq_true_eq, List.all_eq_true] at htidy
          rcases setAll_get (by rw [g1]) hy with ⟨h1, h2⟩ | ⟨j, o, it, h1, h2, h3, rfl⟩
          · rw [Inv.eval_out all 0 a h1]
            exact ((TmOk.of hr.tm) i y h2).mono hleS
          · have hmem := Inv.dsts_mem all j h1 h3
            rw [Inv.eval_in all 0 j o i a h1 h3 htidy.2 (by rw [← hsz]; exact htidy.1 i hmem), Nat.zero_add]
            exact (hF.vals j it (hLi j (List.getElem?_eq_some_iff.1 h1).1) h2).mono ((hitT j it h2).1.up ms K)
        · rw [putAll_defers]; exact hr.df
        · -- the blocks' places differ
          have hmap : ∀ (bs : List Blk) (ll : Blocks), (∀ b ∈ bs, b ∈ b1 ++ b0) → F2 (Br (mkE env T ms K)) (bs.map Blk.last) ll → ll.map (·.1) = bs.map (fun b => ms b.id) := by
            intro bs
            induction bs with
            | nil => intro ll _ hf; cases hf; rfl
            | cons b bs ih =>
              intro ll hbs hf
              cases hf with
              | cons x1 x2 =>
                obtain ⟨_, x4, _⟩ := x1
                simp only [List.map_cons, x4, ih _ (fun c hc => hbs c (List.mem_cons_of_mem _ hc)) x2, hlast b (hbs b List.mem_cons_self)]
                rfl
          rw [hmap _ _ (fun b hb => hb) f1]
          have hnod : ∀ (bs : List Blk), (∀ b ∈ bs, b ∈ b1 ++ b0) → (bs.map (·.id)).Nodup → (bs.map (fun b => ms b.id)).Nodup := by
            intro bs
            induction bs with
            | nil => intro _ _; exact List.nodup_nil
            | cons b bs ih =>
              intro hbs hn
              simp only [List.map_cons, List.nodup_cons] at hn ⊢
              refine ⟨fun hm => ?_, ih (fun c hc => hbs c (List.mem_cons_of_mem _ hc)) hn.2⟩
              obtain ⟨c, hc, he⟩ := List.mem_map.1 hm
              have hb := hbs b List.mem_cons_self
              have hcb := hbs c (List.mem_cons_of_mem _ hc)
              exact hn.1 (List.mem_map.2 ⟨c, hc, hF.inj c hcb b hb (hhere c hcb) (hhere b hb) he⟩)
          exact hnod _ (fun b hb => hb) hnd
  · cases h
end Go.Sx
