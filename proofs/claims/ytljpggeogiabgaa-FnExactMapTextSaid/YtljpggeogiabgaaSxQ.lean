/- A symbolic evaluator of closed terms: regions that draw their order and end in a panic; calls that catch one. -/
import Derived.Test.YtljpggeogiabgaaSxP
import Derived.Test.YtljpggeogiabgaaSxJ
namespace Go.Sx
open Go Go.RowKit Go.Flo Go.Mem Go.Proofs.Ytljpggeogiabgaa
set_option linter.unusedVariables false
set_option linter.unusedSimpArgs false

/-- a panic, where it is allowed -/
def onPan {α : Type} (ok : Bool) : Res α → Res α
  | .ok a => .ok a
  | .ask i t k => .ask i t fun b => onPan ok (k b)
  | .bad n => .bad n
  | .pan c t => bif ok then .pan c t else .bad 191
theorem onPan_sel {env : Nat → Sc} {α : Type} {ok : Bool} : ∀ (r : Res α), (onPan ok r).sel env = r.sel env
  | .ok a => rfl
  | .ask i t k => onPan_sel (k (den env t.l i).bv)
  | .bad n => rfl
  | .pan c t => by cases ok <;> rfl
theorem onPan_selP {env : Nat → Sc} {α : Type} {ok : Bool} {q : C × Tb} : ∀ {r : Res α}, (onPan ok r).selP env = some q → r.selP env = some q ∧ ok = true
  | .ok a, h => by cases h
  | .ask i t k, h => onPan_selP (r := k (den env t.l i).bv) h
  | .bad n, h => by cases h
  | .pan c t, h => by
    cases ok
    · cases h
    · exact ⟨h, rfl⟩
theorem sel_bind {env : Nat → Sc} {α β : Type} {k : α → Res β} : ∀ (r : Res α), (r.bind k).sel env = (r.sel env).bind fun a => (k a).sel env
  | .ok a => rfl
  | .ask i t g => sel_bind (g (den env t.l i).bv)
  | .bad n => rfl
  | .pan c t => rfl
/-- no operation up to i reads what one before it has made -/
def noNew (all : List Oper) (acc : List It) (i : Nat) : Bool := (List.range (i + 1)).all fun k => (List.range k).all fun j => match acc[j]? with
  | some it => it.new.isEmpty || !madeFor all k j
  | none => true
theorem noNew_nil {all : List Oper} {acc : List It} {i k n : Nat} (h : noNew all acc i = true) (hk : k ≤ i) : newFrom all k n (acc.take k) 0 = [] := by
  rw [List.eq_nil_iff_forall_not_mem]
  intro x hx
  obtain ⟨j, it, h1, h2, h3, _⟩ := newFrom_mem hx
  rw [Nat.zero_add] at h3
  have hjk : j < k := by
    have := (List.getElem?_eq_some_iff.1 h1).1
    simp at this; omega
  rw [List.getElem?_take_of_lt hjk] at h1
  have g := List.all_eq_true.1 (List.all_eq_true.1 h k (List.mem_range.2 (by omega))) j (List.mem_range.2 hjk)
  rw [h1] at g
  simp only [h3, Bool.not_true, Bool.or_false] at g
  rw [List.isEmpty_iff.1 g] at h2
  cases h2
/-- operation i may end in a panic: none before it stores, all behind it wait for it -/
def okAt (all : List Oper) (i : Nat) (acc : List It) : Bool := noNew all acc i && ((all.take i).all (fun o => !isStore o) && (List.range all.length).all fun k => bif Nat.blt i k then reachB all 12 k i else true)
noncomputable def passP (ok : Nat → List It → Bool) (X : Ctx) (M : Nat → List It → Tb → Mm) (ops : Array Oper) (tmC : List A) (base stride : Nat) : List Oper → Nat → List It → Tb → Res (List It)
  | [], _, acc, _ => .ok acc
  | o :: l, i, acc, t => (onPan (ok i acc) (item X (M i acc t) ops (setDeps ops.toList acc tmC (depsOf o)) t (base + i * stride) (base + i * stride + stride) o)).bind fun r =>
    passP ok X M ops tmC base stride l (i + 1) (acc ++ [r]) r.t
theorem passP_sel {env : Nat → Sc} {ok : Nat → List It → Bool} {X : Ctx} {M : Nat → List It → Tb → Mm} {ops : Array Oper} {tmC : List A} {base stride : Nat} : ∀ (l : List Oper) (i : Nat) (acc : List It) (t : Tb), (passP ok X M ops tmC base stride l i acc t).sel env = (pass X M ops tmC base stride l i acc t).sel env
  | [], i, acc, t => rfl
  | o :: l, i, acc, t => by
    unfold passP pass
    rw [sel_bind, sel_bind, onPan_sel]
    congr 1
    funext r
    exact passP_sel l _ _ _
noncomputable def drawnP (X : Ctx) (rd : Mm) (top : Nat) (ops : Array Oper) (s : S) : Res S :=
  let l := ops.toList
  let n := l.length
  let stride := (top - s.nid) / (2 * n + 2)
  let tmC := clearT s.tm l
  let sts := storesIn l s.tm l 0
  (passP (fun i acc => okAt l i acc && (Nat.ble (s.nid + n * stride) top && (Inv.ordered ops && Inv.tidy s.tm.length l))) X (mayRead l sts s.own rd) ops tmC s.nid stride l 0 [] s.t).bind fun its =>
    let ss := storesOf its 0
    match blksOf l ss none s.own, newBlks l ss its 0 with
    | some b0, some b1 => bif (distinctN ((b1 ++ b0).map (·.id))) && (ss.all (fun x => (b0.all (fun b => !Nat.beq b.id x.2.1 || sts.any (fun y => Nat.beq y.1 x.1 && Nat.beq y.2 b.id))) && ((b1 ++ b0).map (·.id)).contains x.2.1) && (Nat.ble (s.nid + n * stride) top && (Inv.ordered ops && Inv.tidy s.tm.length l)))
        then .ok ⟨lastT s.t its, setAll l its s.tm, (b1 ++ b0).map Blk.last, s.nid + n * stride⟩ else .bad 116
    | _, _ => .bad 117
theorem drawnP_sel {env : Nat → Sc} (X : Ctx) (rd : Mm) (top : Nat) (ops : Array Oper) (s : S) : (drawnP X rd top ops s).sel env = (drawn X rd top ops s).sel env := by
  unfold drawnP drawn
  simp only
  rw [sel_bind, sel_bind, passP_sel]
  rfl
theorem drawnP_ext {env : Nat → Sc} : DrawnExt env drawnP := by
  intro X hX rd top ops s s' h hw
  rw [drawnP_sel] at h
  exact drawn_ext X hX rd top ops s s' h hw
theorem drawnP_sound {env : Nat → Sc} {Pm : Program} (hm : Pm.follows .mixedOrders = true) : DrawnOk env Pm drawnP := by
  intro X hXP hX hXE rd lo top ms0 K0 t0 w0 id ops s s' a W h hr Q hQ
  rw [drawnP_sel] at h
  exact drawn_sound hm X hXP hX hXE rd lo top ms0 K0 t0 w0 id ops s s' a W h hr Q hQ

/-! what the pass comes to that ends in a panic -/
theorem passP_pan {env : Nat → Sc} {ok : Nat → List It → Bool} {X : Ctx} {M : Nat → List It → Tb → Mm} {ops : Array Oper} {tmC : List A} {base stride : Nat} {q : C × Tb} : ∀ {l : List Oper} {i : Nat} {acc : List It} {t : Tb}, (passP ok X M ops tmC base stride l i acc t).selP env = some q → acc.length = i →
    ∃ (m : Nat) (o : Oper) (out : List It), l[m]? = some o ∧ out.length = i + m ∧ (∀ k, k < i → out[k]? = acc[k]?) ∧ ok (i + m) out = true ∧
      (∀ k o', k < m → l[k]? = some o' → ∃ it, out[i + k]? = some it ∧ (item X (M (i + k) (out.take (i + k)) (match k with | 0 => t | k + 1 => match out[i + k]? with | some it => it.t | none => t)) ops (setDeps ops.toList (out.take (i + k)) tmC (depsOf o')) (match k with | 0 => t | k + 1 => match out[i + k]? with | some it => it.t | none => t) (base + (i + k) * stride) (base + (i + k) * stride + stride) o').sel env = some it) ∧
      (item X (M (i + m) out (match m with | 0 => t | k + 1 => match out[i + k]? with | some it => it.t | none => t)) ops (setDeps ops.toList out tmC (depsOf o)) (match m with | 0 => t | k + 1 => match out[i + k]? with | some it => it.t | none => t) (base + (i + m) * stride) (base + (i + m) * stride + stride) o).selP env = some q
  | [], i, acc, t, h, hl => by cases h
  | o :: l, i, acc, t, h, hl => by
    unfold passP at h
    rcases Res.bind_pan h with h | ⟨it, h1, h⟩
    · obtain ⟨h1, h2⟩ := onPan_selP h
      exact ⟨0, o, acc, rfl, hl, fun _ _ => rfl, h2, fun k o' hk => absurd hk (Nat.not_lt_zero _), h1⟩
    · rw [onPan_sel] at h1
      obtain ⟨m, o2, out, g1, g2, g3, g4, g5, g6⟩ := passP_pan h (by simp [hl])
      have e0 : i + 1 + m = i + (m + 1) := by omega
      rw [e0] at g2 g4 g6
      have hacc : out.take i = acc := by
        apply List.ext_getElem?
        intro k
        by_cases hk : k < i
        · rw [List.getElem?_take_of_lt hk, g3 k (by omega), List.getElem?_append_left (by omega)]
        · rw [List.getElem?_eq_none (by simp; omega), List.getElem?_eq_none (by omega)]
      have hit : out[i]? = some it := by rw [g3 i (by omega), List.getElem?_append_right (by omega)]; simp [hl]
      refine ⟨m + 1, o2, out, by simpa using g1, g2, fun k hk => ?_, g4, fun k o' hk ho => ?_, ?_⟩
      · rw [g3 k (by omega), List.getElem?_append_left (by omega)]
      · cases k with
        | zero =>
          simp only [List.getElem?_cons_zero, Option.some.injEq] at ho
          subst ho
          exact ⟨it, hit, by rw [Nat.add_zero, hacc]; exact h1⟩
        | succ k =>
          obtain ⟨it', q1, q2⟩ := g5 k o' (by omega) (by simpa using ho)
          have e : i + 1 + k = i + (k + 1) := by omega
          rw [e] at q1 q2
          refine ⟨it', q1, ?_⟩
          cases k with
          | zero => simp only [Nat.add_zero, hit]; exact q2
          | succ k =>
            have e2 : i + 1 + k = i + (k + 1) := by omega
            simp only [e2] at q2
            cases hk : out[i + (k + 1)]? with
            | none =>
              have hlt := (List.getElem?_eq_some_iff.1 q1).1
              have := List.getElem?_eq_none_iff.1 hk
              omega
            | some z => simp only [hk] at q2 ⊢; exact q2
      · cases m with
        | zero => simp only [Nat.add_zero, hit]; exact g6
        | succ m =>
          have e2 : i + 1 + m = i + (m + 1) := by omega
          simp only [e2] at g6
          cases hk : out[i + (m + 1)]? with
          | none =>
            have := List.getElem?_eq_none_iff.1 hk
            omega
          | some z => simp only [hk] at g6 ⊢; exact g6
/-- the tables, one behind the other, of as many as there are -/
theorem tab_extN {env : Nat → Sc} {X : Ctx} (hX : CallExt env X) {M : Nat → List It → Tb → Mm} {ops : Array Oper} {all : List Oper} {tmC : List A} {t0 : Tb} {base stride : Nat} {its : List It} (hw : WF t0) (hl : its.length ≤ all.length)
    (g : ∀ k o, k < its.length → all[k]? = some o → ∃ it, its[k]? = some it ∧ (item X (M k (its.take k) (tabAt t0 its k)) ops (setDeps all (its.take k) tmC (depsOf o)) (tabAt t0 its k) (base + k * stride) (base + k * stride + stride) o).sel env = some it) :
    ∀ k, k ≤ its.length → Ext env t0 (tabAt t0 its k) ∧ ∀ j, j ≤ k → Ext env (tabAt t0 its j) (tabAt t0 its k) := by
  intro k
  induction k with
  | zero => intro _; exact ⟨Ext.refl hw, fun j hj => by have : j = 0 := by omega
                                                        subst this; exact Ext.refl hw⟩
  | succ k ih =>
    intro hk
    obtain ⟨h1, h2⟩ := ih (by omega)
    have hlt : k < all.length := by omega
    obtain ⟨it, hit, hi⟩ := g k all[k] (by omega) (by simp [hlt])
    have e := item_ext hX hi h1.wf
    have ht : tabAt t0 its (k + 1) = it.t := by unfold tabAt; simp [hit]
    rw [ht]
    refine ⟨h1.trans e, fun j hj => ?_⟩
    by_cases hjk : j ≤ k
    · exact (h2 j hjk).trans e
    · have : j = k + 1 := by omega
      subst this
      rw [ht]; exact Ext.refl e.wf

section
variable {P : Program} {Q : Exit → Act → World → Prop}
open Go.Inv in
/-- the rule of regions, in values; what is put off stays -/
theorem wp_region_flow2 {id : Nat} {l : List Oper} {a : Act} {w : World} (F : (Nat → Bool) → (Nat → Value) → World → Prop) (hm : P.follows .mixedOrders = true) (ho : ordered l.toArray = true) (ht : tidy a.tmps.size l = true)
    (h0 : ∀ v, F (fun _ => false) v w.drew)
    (hs : ∀ i o, l[i]? = some o → ∀ L v W a1, F L v W → L i = false → (∀ e ∈ o.after, Region.binds .any e = true → L e.on = true) →
      (∀ j o' d, l[j]? = some o' → o'.dst = some d → Act.eval a1 (.tmp d) = v j) → (∀ d, (dsts l).contains d = false → Act.eval a1 (.tmp d) = a.eval (.tmp d)) → a1.defers = a.defers →
      ∀ K : Act → World → Prop, (∀ u W', F (put L i) (upd v i u) W' → K (a1.put o.dst u) W') →
      if Region.wanted o (yielded l.toArray a1.tmps) = true then Oper.wp P o a1 W K Q else K (a1.put o.dst undef) W)
    (hd : ∀ L v w, (∀ i, Nat.blt i l.length = true → L i = true) → F L v w → Q .normal (putAll a v 0 l) w) : (Code.region id l.toArray true).wp P Q a w := by
  unfold tidy at ht
  simp only [Bool.and_eq_true, decide_eq_true_eq, List.all_eq_true] at ht
  refine wp_region_any hm ?_
  refine wpAny_inv (fun L a' w => ∃ v, a' = putAll a v 0 l ∧ F L v w) ?_ ?_ _ _ _ _ (by simp) ?_ ?_
  · rintro i o hi L _ w ⟨v, rfl, hF⟩ hfree hdep
    have hi' : l[i]? = some o := by simpa using hi
    refine wpOp_step hi fun K hK => ?_
    refine hs i o hi' L v w _ hF hfree hdep ?_ ?_ (putAll_defers _ _ _ _) K (fun u W' hF' => hK _ _ ⟨upd v i u, ?_, hF'⟩)
    · intro j o' d hj hd
      have hmem : d ∈ dsts l := dsts_mem l j hj hd
      have := eval_in (v := v) l 0 j o' d a hj hd ht.2 (ht.1 d hmem)
      rwa [Nat.zero_add] at this
    · intro d hd
      exact eval_out l 0 a (by intro hm; have := List.contains_iff_mem.2 hm; rw [hd] at this; cases this)
    · have := putAll_upd v u l 0 i o a hi' ht.2
      rwa [Nat.zero_add] at this
  · rintro listed _ w ⟨v, rfl, hF⟩ hr hsz
    exact hd _ v w (fun i hi => all_up ho hr hsz i (by rw [List.size_toArray]; exact Nat.le_of_ble_eq_true hi)) hF
  · unfold todo
    exact Nat.le_trans Array.count_le_size (by simp)
  · have : up (Array.replicate l.toArray.size false) = fun _ => false := by
      funext i; unfold up
      simp only [Array.getD_eq_getD_getElem?, Array.getElem?_replicate]
      split <;> rfl
    rw [this]
    refine ⟨first a l, (putAll_first l 0 _ a fun k o d hk hd => ?_).symm, h0 _⟩
    unfold first
    rw [Nat.zero_add, hk]
    simp [hd]
end
def DrawnPan (env : Nat → Sc) (Pm : Program) (dr : Ctx → Mm → Nat → Array Oper → S → Res S) : Prop := ∀ X : Ctx, X.P = Pm → CallOk env X → CallExt env X → CallPan env X → ∀ rd lo top ms0 K0 t0 w0, DrPan env X rd lo top ms0 K0 t0 w0 (dr X rd top)
theorem drawnP_pan {env : Nat → Sc} {Pm : Program} (hm : Pm.follows .mixedOrders = true) : DrawnPan env Pm drawnP := by
  intro X hXP hX hXE hP rd lo top ms0 K0 t0 w0 id ops s c t' a W h hr Q hQ
  obtain ⟨mss, Ks, r, l, hr⟩ := hr
  unfold drawnP at h
  simp only at h
  generalize hstr : (top - s.nid) / (2 * ops.toList.length + 2) = stride at h
  generalize hsts : storesIn ops.toList s.tm ops.toList 0 = sts at h
  rcases Res.bind_pan h with h | ⟨its, _, h⟩
  rotate_left
  · split at h
    · rw [NoPan.cond (.ok _) (.bad _) env] at h; cases h
    · cases h
  obtain ⟨m, o, its, ho, hlen, _, hok, hits, hpan⟩ := passP_pan h rfl
  simp only [Nat.zero_add] at hlen hok hits hpan
  generalize hall : ops.toList = all at ho hok hits hpan
  have hops : ops = all.toArray := by rw [← hall]
  simp only [Bool.and_eq_true] at hok
  obtain ⟨hok, c4, c5, c6⟩ := hok
  unfold okAt at hok
  simp only [Bool.and_eq_true, List.all_eq_true] at hok
  obtain ⟨hnn, hnost, hwait⟩ := hok
  have hrd0 : ∀ k, k ≤ m → mayRead all sts s.own rd k (its.take k) (tabAt s.t its k) = memAt all sts s.own k ++ rd := fun k hk => by
    unfold mayRead
    rw [noNew_nil hnn hk, List.append_nil]
  have hmlt : m < all.length := (List.getElem?_eq_some_iff.1 ho).1
  have g4 : ∀ k o', k < its.length → all[k]? = some o' → ∃ it, its[k]? = some it ∧ (item X (memAt all sts s.own k ++ rd) ops (setDeps all (its.take k) (clearT s.tm all) (depsOf o')) (tabAt s.t its k) (s.nid + k * stride) (s.nid + k * stride + stride) o').sel env = some it := fun k o' hk ho' => by
    obtain ⟨it, q1, q2⟩ := hits k o' (by omega) ho'
    refine ⟨it, q1, ?_⟩
    rw [← hrd0 k (by omega)]
    unfold tabAt
    cases k with
    | zero => exact q2
    | succ k => simp only [Nat.zero_add] at q2; exact q2
  have hpan' : (item X (memAt all sts s.own m ++ rd) ops (setDeps all its (clearT s.tm all) (depsOf o)) (tabAt s.t its m) (s.nid + m * stride) (s.nid + m * stride + stride) o).selP env = some (c, t') := by
    rw [← hrd0 m (Nat.le_refl _), List.take_of_length_le (by omega : its.length ≤ m)]
    unfold tabAt
    cases m with
    | zero => exact hpan
    | succ k => simp only [Nat.zero_add] at hpan; exact hpan
  have htab := tab_extN hXE (M := fun k _ _ => memAt all sts s.own k ++ rd) hr.ext.wf (by omega : its.length ≤ all.length) g4
  obtain ⟨T, hTe⟩ : ∃ T, T = tabAt s.t its its.length := ⟨_, rfl⟩
  have hext : Ext env s.t T := by rw [hTe]; exact (htab its.length (Nat.le_refl _)).1
  have hitT : ∀ k it, its[k]? = some it → Ext env it.t T ∧ tabAt s.t its (k + 1) = it.t := fun k it hk => by
    have hlt := (List.getElem?_eq_some_iff.1 hk).1
    have ht : tabAt s.t its (k + 1) = it.t := by unfold tabAt; simp [hk]
    refine ⟨?_, ht⟩
    rw [hTe, ← ht]
    exact (htab its.length (Nat.le_refl _)).2 (k + 1) (by omega)
  rw [hops]
  refine wp_region_flow2 (F := fun L v W => (∀ k, m ≤ k → L k = false) ∧ ∃ ms K, Fl env rd w0 all its [] s.t T s.own s.nid stride mss Ks r L v W ms K) (by rw [hXP]; exact hm) (by rw [← hops]; exact c5) (by rw [← (by simpa using F2.length hr.tm : s.tm.length = a.tmps.size)]; exact c6) (fun v => ⟨fun _ _ => rfl, mss, Ks, ?_⟩) (fun i o' ho' L v W a1 hF hL hd hin hout hdf Kont hK => ?_) (fun L v W' hLall hF => ?_)
  -- at the beginning
  · refine ⟨fun i hi => ⟨hi, rfl⟩, fun i hi => .inl hi, fun j it hj _ => (by cases hj), fun k o _ hk => (by cases hk), ?_, hr.rdr, fun x hx => ?_, fun b hb => (by cases hb), fun b hb => (by cases hb)⟩
    · have := hr.mem.drew
      exact ⟨this.below, this.old, fun x hx => (by cases hx), List.nodup_nil⟩
    · obtain ⟨y, hy, k1, k2, k3⟩ := F2.mem hr.own x hx
      obtain ⟨y1, y2⟩ := y
      have k2' : y1 = mss x.1 := k2
      subst k2'
      exact ⟨k1, y2, k3, Mem.only hr.mem.drew hy⟩
  -- an operation
  · obtain ⟨hdead, ms, K, hF⟩ := hF
    have hdep : ∀ j ∈ depsOf o', L j = true := fun j hj => by
      obtain ⟨e, he, hb, rfl⟩ := depsOf_mem hj
      exact hd e he hb
    have hfresh : ∀ i, i < all.length → L i = false → ∀ j, s.nid + i * stride ≤ j → j < s.nid + i * stride + stride → ¬ K j := fun i hil hL j hj1 hj2 hj => by
      have hle : s.nid + all.length * stride ≤ top := Nat.le_of_ble_eq_true c4
      rcases hF.rng j hj with hj | ⟨k, hk1, hk2, hk3, hk4⟩
      · have hmul : (i + 1) * stride ≤ all.length * stride := Nat.mul_le_mul_right _ hil
        have hs1 : (i + 1) * stride = i * stride + stride := Nat.succ_mul i stride
        rcases hr.rng j hj with hj | ⟨_, hj, _⟩
        · exact hr.fresh j (Nat.le_trans hr.low (by omega)) (by omega) hj
        · omega
      · have : k = i := by
          rcases Nat.lt_trichotomy k i with hlt | heq | hgt
          · have h1 : (k + 1) * stride ≤ i * stride := Nat.mul_le_mul_right _ hlt
            have h2 : (k + 1) * stride = k * stride + stride := Nat.succ_mul k stride
            omega
          · exact heq
          · have h1 : (i + 1) * stride ≤ k * stride := Nat.mul_le_mul_right _ hgt
            have h2 : (i + 1) * stride = i * stride + stride := Nat.succ_mul i stride
            omega
        subst this
        rw [hL] at hk1; cases hk1
    have hreadT : ∀ tw, Ext env s.t tw → ∀ i, ReadOk (mkE env tw ms K) W (memAt all sts s.own i ++ rd) := fun tw htw i => by
      have h1 : ∃ r1, F2 (Br (mkE env s.t ms K)) (memAt all sts s.own i) r1 ∧ ∀ y ∈ r1, y.1 < W.heap.size ∧ W.rangeAt y.1 0 y.2 := by
        refine F2.choose fun x hx => ?_
        obtain ⟨hx1, hx2⟩ := List.mem_filter.1 hx
        obtain ⟨k1, vs, k2, k3⟩ := hF.frz x hx1
        have := k3.new _ List.mem_cons_self
        exact ⟨(ms x.1, vs), ⟨k1, rfl, k2⟩, this.2.1, this.2.2.1⟩
      obtain ⟨r1, h2, h3⟩ := h1
      refine ⟨r1 ++ r, (h2.append hF.rdr).mono fun _ _ => Br.mono (htw.up ms K), fun x hx => ?_⟩
      rcases List.mem_append.1 hx with hx | hx
      · exact h3 x hx
      · exact ⟨Nat.lt_of_lt_of_le (hF.mem.old x hx).1 hF.mem.below.size, (hF.mem.old x hx).2⟩
    have htmOf : ∀ i, i ≤ its.length → (∀ j ∈ depsOf o', j < its.length → j < i ∨ True) → TmOk (mkE env (tabAt s.t its i) ms K) (setDeps all (its.take i) (clearT s.tm all) (depsOf o')) a1 := fun i hi _ => by
      obtain ⟨hti, htj⟩ := htab i hi
      have hleS : (mkE env s.t mss Ks).le (mkE env (tabAt s.t its i) ms K) := ⟨hti.le, hti.den, fun i hi => (hF.old i hi).1, fun i hi => (hF.old i hi).2⟩
      have htmC : TmOk (mkE env (tabAt s.t its i) ms K) (clearT s.tm all) a1 := fun t y hy => by
        rcases clearT_get hy with rfl | ⟨hnot, hy⟩
        · trivial
        · rw [hout t (by simpa using hnot)]
          exact ((TmOk.of hr.tm) t y hy).mono hleS
      refine setDeps_ok htmC fun j hj o2 it' ho2 hit' d hd' => ?_
      rw [hin j o2 d ho2 hd']
      have hlt : j < i := by
        have := (List.getElem?_eq_some_iff.1 hit').1
        simp at this; omega
      rw [List.getElem?_take_of_lt hlt] at hit'
      have := htj (j + 1) (by omega)
      rw [(hitT j it' hit').2] at this
      exact (hF.vals j it' (hdep j hj) hit').mono (this.up ms K)
    rcases Nat.lt_trichotomy i m with him | him | him
    -- ahead of the panic
    · obtain ⟨it, hit, hitem⟩ := g4 i o' (by omega) ho'
      obtain ⟨hitT1, hitT2⟩ := hitT i it hit
      have hil : i < its.length := by omega
      obtain ⟨hti, htj⟩ := htab i (by omega)
      have htm := htmOf i (by omega) fun _ _ _ => .inr trivial
      have hfi := hti.fk hr.facts
      rw [hops] at hitem
      obtain ⟨b, tw, hwant, hcase⟩ := item_cases hitem
      have ew : Ext env (tabAt s.t its i) tw := wants_ext hwant hti.wf
      have htw := hti.trans ew
      have htmw := tm_up ew htm
      have hfw := ew.fk hfi
      have hwanted := wantsD_sound (env := env) (ms := ms) (K := K) hwant hti.wf htm hfi
      rw [hwanted]
      have hnext : ∀ v' W', Done env tw (s.nid + i * stride) (s.nid + i * stride + stride) ms K W (it.v, it.new, s.nid + i * stride + stride, it.t) v' W' → (∀ k, m ≤ k → Inv.put L i k = false) ∧ ∃ ms K, Fl env rd w0 all its [] s.t T s.own s.nid stride mss Ks r (Inv.put L i) (Inv.upd v i v') W' ms K := fun v' W' hD =>
        ⟨fun k hk => by rw [put_ne (by omega)]; exact hdead k hk, hF.grow (ti := tw) (nid' := s.nid + i * stride + stride) hext.wf ho' hL hdep hit hitT1 hD (fun b hb => (by cases hb)) (fun b hb => (by cases hb))⟩
      rcases hcase with ⟨rfl, hit2⟩ | ⟨rfl, ty, x, y, bid, off, tx, z, inf, ty2, hop, hx, hz, hinf, hsz, hit2⟩ | ⟨rfl, nid', hact, hst⟩
      · rw [if_neg (by simp)]
        refine hK undef W (hnext _ _ ?_)
        rw [hit2]
        have hd0 : Done env tw (s.nid + i * stride) (s.nid + i * stride + stride) ms K W ((.tup [] : A), ([] : Mm), s.nid + i * stride, tw) undef (W.drewN 0) := done_same 0 (Ext.refl htw.wf) ⟨[], rfl, .nil⟩
        obtain ⟨ms', K', nl, q1, q2, q3, q4, q5, q6, q7⟩ := hd0
        exact ⟨ms', K', nl, q1, q2, fun j hj => (q3 j hj).imp (fun x => x) fun ⟨a, b, c⟩ => ⟨a, c, c⟩, Nat.le_add_right _ _, q5, q6, q7⟩
      · exfalso
        have hmem : o' ∈ all.take m := by
          have : (all.take m)[i]? = some o' := by rw [List.getElem?_take_of_lt him]; exact ho'
          exact List.mem_of_getElem? this
        have := hnost o' hmem
        unfold isStore at this
        rw [hop] at this
        cases this
      · rw [if_pos rfl]
        refine act_sound hX hact ⟨htw.wf, hreadT tw htw i, htmw, hfresh i (by omega) hL, hfw⟩ fun v' W' hD => ?_
        refine hK v' W' (hnext _ _ ?_)
        obtain ⟨ms', K', nl, q1, q2, q3, q4, q5, q6, q7⟩ := hD
        exact ⟨ms', K', nl, q1, q2, fun j hj => (q3 j hj).imp (fun x => x) fun ⟨a, b, c⟩ => ⟨a, c, c⟩, Nat.le_add_right _ _, q5, q6, q7⟩
    -- the panic
    · subst him
      rw [ho] at ho'; cases ho'
      obtain ⟨hti, htj⟩ := htab i (by omega)
      have htake : its.take i = its := List.take_of_length_le (by omega)
      have htm := htmOf i (by omega) fun _ _ _ => .inr trivial
      rw [htake] at htm
      have hfi := hti.fk hr.facts
      rw [hops] at hpan'
      unfold item at hpan'
      obtain ⟨⟨b, tw⟩, hwant, hpan'⟩ := (NoPan.wants _ _ _ _).out hpan'
      have ew : Ext env (tabAt s.t its i) tw := wants_ext hwant hti.wf
      have htw := hti.trans ew
      have htmw := tm_up ew htm
      have hfw := ew.fk hfi
      have hwanted := wantsD_sound (env := env) (ms := ms) (K := K) hwant hti.wf htm hfi
      rw [hwanted]
      cases b <;> simp only [cond_true, cond_false] at hpan'
      · cases hpan'
      · rw [if_pos rfl]
        split at hpan'
        · exfalso
          obtain ⟨_, _, hpan'⟩ := (NoPan.of _ _).out hpan'
          obtain ⟨_, _, hpan'⟩ := (NoPan.of _ _).out hpan'
          split at hpan'
          · split at hpan'
            · rw [NoPan.cond (.ok _) (.bad _) env] at hpan'; cases hpan'
            · cases hpan'
          · cases hpan'
        · rcases Res.bind_pan hpan' with hpan' | ⟨_, _, hpan'⟩
          · exact act_pan hP hpan' ⟨htw.wf, hreadT tw htw i, htmw, hfresh i hmlt hL, hfw⟩ fun v W' hd => hQ _ _ _ (hdf.trans hr.df) (hd.up (hr.ext.trans htw) hF.mem.below)
          · cases hpan'
    -- behind it
    · exfalso
      have hil : i < all.length := (List.getElem?_eq_some_iff.1 ho').1
      have hw := hwait i (List.mem_range.2 hil)
      rw [show Nat.blt m i = true from Nat.ble_eq_true_of_le him] at hw
      simp only [cond_true] at hw
      have hLm : L m = true := by
        unfold reachB at hw
        rw [ho'] at hw
        simp only at hw
        obtain ⟨j, hj, hb⟩ := List.any_eq_true.1 hw
        cases he : Nat.beq j m <;> rw [he] at hb <;> simp only [cond_true, cond_false] at hb
        · exact reach_up hF.dc 11 hb (hdep j hj)
        · rw [← beq_eq he]; exact hdep j hj
      rw [hdead m (Nat.le_refl _)] at hLm; cases hLm
  -- all have come up: no
  · exfalso
    have := hLall m (Nat.ble_eq_true_of_le hmlt)
    rw [hF.1 m (Nat.le_refl _)] at this; cases this
end Go.Sx
