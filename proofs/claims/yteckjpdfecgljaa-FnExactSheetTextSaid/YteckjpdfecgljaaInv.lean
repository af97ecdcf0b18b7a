/- A region that draws its order of evaluation, by an invariant: each operation is looked at once, whatever came up before it. -/
import Derived.RegionTactic
import Derived.KernelRfl
import Derived.Below
namespace Go.Inv
open Go

variable {P : Program} {ops : Array Oper} {Q : Exit → Act → World → Prop} {md : Region.Mode}

/-- which operations have come up -/
def up (listed : Array Bool) (i : Nat) : Bool := listed.getD i false
def put (L : Nat → Bool) (i : Nat) : Nat → Bool := fun j => if j = i then true else L j

theorem up_set {listed : Array Bool} {i : Nat} (h : i < listed.size) : up (listed.setIfInBounds i true) = put (up listed) i := by
  funext j
  unfold up put
  by_cases hj : j = i
  · subst hj; simp [h]
  · rw [if_neg hj]; exact getD_set_ne false (Ne.symm hj)

theorem getD_lt {listed : Array Bool} {i : Nat} (h : listed.getD i true = false) : i < listed.size := by
  rcases Nat.lt_or_ge i listed.size with g | g
  · exact g
  · simp [Array.getElem?_eq_none g] at h

def todo (listed : Array Bool) : Nat := listed.count false

theorem todo_set {listed : Array Bool} {i : Nat} (h : listed.getD i true = false) : todo (listed.setIfInBounds i true) + 1 = todo listed := by
  have hi := getD_lt h
  have h2 : listed[i] = false := by simpa [hi] using h
  unfold todo
  rw [Array.setIfInBounds, dif_pos hi, Array.count_set]
  have : 0 < Array.count false listed := Array.count_pos_iff.2 (by rw [← h2]; exact Array.getElem_mem hi)
  simp [h2]; omega

theorem todo_zero {listed : Array Bool} (h : todo listed = 0) (i : Nat) : listed.getD i true = true := by
  rcases Nat.lt_or_ge i listed.size with g | g
  · have h1 : false ∉ listed := Array.count_eq_zero.1 h
    cases hc : listed[i] with
    | true => simp [g, hc]
    | false => exact absurd (hc ▸ Array.getElem_mem g) h1
  · simp [Array.getElem?_eq_none g]

theorem wpAny_inv (I : (Nat → Bool) → Act → World → Prop)
    (step : ∀ i o, ops[i]? = some o → ∀ L a w, I L a w → L i = false → (∀ e ∈ o.after, Region.binds md e = true → L e.on = true) → wpOp P ops Q i (fun a' w' => I (put L i) a' w') a w)
    (done : ∀ listed a w, I (up listed) a w → Region.ready md ops listed = [] → listed.size = ops.size → Q .normal a w) :
    ∀ fuel (listed : Array Bool) a w, listed.size = ops.size → todo listed ≤ fuel → I (up listed) a w → wpAny P md ops Q fuel listed a w := by
  intro fuel
  induction fuel with
  | zero =>
    intro listed a w hsz ht hI
    have hr : Region.ready md ops listed = [] := by
      cases h : Region.ready md ops listed with
      | nil => rfl
      | cons x xs =>
        have hx : x ∈ Region.ready md ops listed := by rw [h]; simp
        have h1 := (mem_ready.1 hx).1
        rw [todo_zero (by omega) x] at h1; cases h1
    exact ⟨hr, done _ _ _ hI hr hsz⟩
  | succ fuel ih =>
    intro listed a w hsz ht hI
    refine ⟨fun hr => done _ _ _ hI hr hsz, fun i hi => ?_⟩
    obtain ⟨h0, o, ho, hall⟩ := mem_ready.1 hi
    have hfree : up listed i = false := by
      have hl := getD_lt h0
      unfold up; simpa [hl] using h0
    have hs := step i o ho (up listed) a w hI hfree (fun e he hb => hall e he hb)
    refine wpOp_mono (fun a' w' h => ?_) hs
    refine ih _ a' w' (by simp [hsz]) ?_ ?_
    · have := todo_set h0; omega
    · rw [up_set (getD_lt h0)]; exact h

/-- each operation waits only for earlier ones -/
def ordered (ops : Array Oper) : Bool := (List.range ops.size).all fun i => ((ops[i]?).map (·.after.all fun e => !Region.binds .any e || decide (e.on < i))).getD true

theorem all_up {listed : Array Bool} (ho : ordered ops = true) (hr : Region.ready .any ops listed = []) (hs : listed.size = ops.size) : ∀ i, i < ops.size → up listed i = true := by
  intro i
  induction i using Nat.strongRecOn with
  | _ i ih =>
    intro hi
    cases hu : up listed i with
    | true => rfl
    | false =>
      exfalso
      have h0 : listed.getD i true = false := by
        unfold up at hu
        have : i < listed.size := by omega
        simpa [this] using hu
      have hmem : i ∈ Region.ready .any ops listed := by
        refine mem_ready.2 ⟨h0, ops[i], by simp [hi], fun e he hbind => ?_⟩
        have h1 := List.all_eq_true.1 ho i (List.mem_range.2 hi)
        simp only [hi, getElem?_pos, Option.map_some, Option.getD_some] at h1
        have h2 := (Array.all_eq_true_iff_forall_mem.1 h1) e he
        have h3 : e.on < i := by
          rw [hbind] at h2; simpa using h2
        exact ih e.on h3 (by omega)
      rw [hr] at hmem; cases hmem

/-- the steps, one a number -/
def Steps (P : Program) (ops : Array Oper) (Q : Exit → Act → World → Prop) (I : (Nat → Bool) → Act → World → Prop) (i : Nat) : List Oper → Prop
  | [] => True
  | o :: rest => (∀ L a w, I L a w → (∀ e ∈ o.after, Region.binds .any e = true → L e.on = true) → ∀ K : Act → World → Prop, Hid' (∀ a' w', I (put L i) a' w' → K a' w') →
      if Region.wanted o (yielded ops a.tmps) = true then Oper.wp P o a w K Q else K (a.put o.dst undef) w) ∧ Steps P ops Q I (i + 1) rest
where Hid' (p : Prop) : Prop := p

theorem steps_at {I : (Nat → Bool) → Act → World → Prop} : ∀ (l : List Oper) (n : Nat), Steps P ops Q I n l → ∀ i o, l[i]? = some o → ops[n + i]? = some o →
    ∀ L a w, I L a w → (∀ e ∈ o.after, Region.binds .any e = true → L e.on = true) → wpOp P ops Q (n + i) (fun a' w' => I (put L (n + i)) a' w') a w := by
  intro l
  induction l with
  | nil => intro n _ i o h; simp at h
  | cons x xs ih =>
    intro n hs i o hi ho L a w hI hd
    cases i with
    | zero =>
      have : x = o := by simpa using hi
      subst this
      exact wpOp_step ho (fun K hK => hs.1 L a w hI hd K hK)
    | succ i =>
      have e : n + (i + 1) = n + 1 + i := by omega
      rw [e] at ho ⊢
      exact ih (n + 1) hs.2 i o (by simpa using hi) ho L a w hI hd

/-- THE RULE. I is what is known when just the operations with 'L i = true' have come up. -/
theorem wp_region_inv {id : Nat} {l : List Oper} {a : Act} {w : World} (I : (Nat → Bool) → Act → World → Prop) (hm : P.follows .mixedOrders = true) (ho : ordered l.toArray = true)
    (h0 : I (fun _ => false) a w.drew) (hs : Steps P l.toArray Q I 0 l) (hd : ∀ L a w, (∀ i, i < l.length → L i = true) → I L a w → Q .normal a w) : (Code.region id l.toArray true).wp P Q a w := by
  refine wp_region_any hm ?_
  refine wpAny_inv I ?_ ?_ _ _ _ _ (by simp) ?_ ?_
  · intro i o hi L a w hI _ hdep
    have := steps_at (P := P) (ops := l.toArray) (Q := Q) l 0 hs i o (by simpa using hi) (by simpa using hi) L a w hI hdep
    simpa using this
  · intro listed a w hI hr hsz
    exact hd _ a w (fun i hi => all_up ho hr hsz i (by simpa using hi)) hI
  · unfold todo
    exact Nat.le_trans Array.count_le_size (by simp)
  · have : up (Array.replicate l.toArray.size false) = fun _ => false := by
      funext i; unfold up
      simp only [Array.getD_eq_getD_getElem?, Array.getElem?_replicate]
      split <;> rfl
    rw [this]; exact h0

/-! the same rule, in the values that the operations yield -/
def putAll (a : Act) (v : Nat → Value) : Nat → List Oper → Act
  | _, [] => a
  | n, o :: rest => putAll (a.put o.dst (v n)) v (n + 1) rest
def upd (v : Nat → Value) (i : Nat) (u : Value) : Nat → Value := fun j => if j = i then u else v j

/-- the temporaries that a region writes: all there, each once -/
def dsts : List Oper → List Nat
  | [] => []
  | o :: rest => match o.dst with | some d => d :: dsts rest | none => dsts rest
def tidy (n : Nat) (l : List Oper) : Bool := (dsts l).all (fun d => decide (d < n)) && decide (dsts l).Nodup

theorem put_size (a : Act) (d : Option Tmp) (u : Value) : (a.put d u).tmps.size = a.tmps.size := by cases d <;> simp [Act.put]
theorem putAll_size (v : Nat → Value) : ∀ (l : List Oper) (n : Nat) (a : Act), (putAll a v n l).tmps.size = a.tmps.size
  | [], _, _ => rfl
  | o :: rest, n, a => by unfold putAll; rw [putAll_size v rest, put_size]

/-- a put of a temporary that the list does not write may come ahead -/
theorem putAll_put (v : Nat → Value) (d : Tmp) (u : Value) : ∀ (l : List Oper) (n : Nat) (a : Act), d ∉ dsts l → (putAll a v n l).put (some d) u = putAll (a.put (some d) u) v n l
  | [], _, _, _ => rfl
  | o :: rest, n, a, h => by
    unfold putAll
    unfold dsts at h
    cases ho : o.dst with
    | none =>
      rw [ho] at h
      exact putAll_put v d u rest (n + 1) _ h
    | some e =>
      rw [ho] at h
      simp only [List.mem_cons, not_or] at h
      rw [putAll_put v d u rest (n + 1) _ h.2]
      congr 1
      show ({ a with tmps := (a.tmps.setIfInBounds e (v n)).setIfInBounds d u } : Act) = { a with tmps := (a.tmps.setIfInBounds d u).setIfInBounds e (v n) }
      rw [Array.setIfInBounds_comm _ _ (Ne.symm h.1)]

theorem putAll_congr {v v' : Nat → Value} : ∀ (l : List Oper) (n : Nat) (a : Act), (∀ k, k < l.length → v (n + k) = v' (n + k)) → putAll a v n l = putAll a v' n l
  | [], _, _, _ => rfl
  | o :: rest, n, a, h => by
    unfold putAll
    have h0 : v n = v' n := h 0 (by simp)
    rw [h0]
    exact putAll_congr rest (n + 1) _ fun k hk => by
      have := h (k + 1) (by simp; omega)
      rwa [show n + (k + 1) = n + 1 + k by omega] at this

theorem putAll_upd (v : Nat → Value) (u : Value) : ∀ (l : List Oper) (n i : Nat) (o : Oper) (a : Act), l[i]? = some o → (dsts l).Nodup → (putAll a v n l).put o.dst u = putAll a (upd v (n + i) u) n l
  | [], _, _, _, _, h, _ => by simp at h
  | x :: rest, n, 0, o, a, h, hnd => by
    have hx : x = o := by simpa using h
    subst hx
    unfold putAll
    have e : ∀ b : Act, putAll b (upd v (n + 0) u) (n + 1) rest = putAll b v (n + 1) rest := fun b => putAll_congr rest (n + 1) b fun k _ => by
      unfold upd; rw [if_neg (by omega)]
    rw [e]
    have hu : upd v (n + 0) u n = u := by unfold upd; simp
    rw [hu]
    cases hd : x.dst with
    | none => rfl
    | some d =>
      unfold dsts at hnd
      rw [hd] at hnd
      rw [putAll_put v d u rest (n + 1) _ (List.nodup_cons.1 hnd).1]
      congr 1
      simp [Act.put]
  | x :: rest, n, i + 1, o, a, h, hnd => by
    unfold putAll
    have hnd2 : (dsts rest).Nodup := by
      unfold dsts at hnd
      cases hd : x.dst with
      | none => rw [hd] at hnd; exact hnd
      | some d => rw [hd] at hnd; exact (List.nodup_cons.1 hnd).2
    have hu : upd v (n + (i + 1)) u n = v n := by unfold upd; rw [if_neg (by omega)]
    rw [hu, show n + (i + 1) = n + 1 + i by omega]
    exact putAll_upd v u rest (n + 1) i o _ (by simpa using h) hnd2

/-- what stands there at the beginning -/
def first (a : Act) (l : List Oper) (i : Nat) : Value := match ((l[i]?).bind (·.dst)) with | some d => a.tmps.getD d undef | none => undef
theorem put_same (a : Act) (d : Tmp) : a.put (some d) (a.tmps.getD d undef) = a := by
  unfold Act.put
  have : a.tmps.setIfInBounds d (a.tmps.getD d undef) = a.tmps := by
    refine Array.ext_getElem? fun i => ?_
    rw [Array.getElem?_setIfInBounds]
    split
    · rename_i h
      subst h
      split
      · rename_i h; simp [h]
      · rename_i h; simp [h]
    · rfl
  simp only [this]
theorem putAll_first : ∀ (l : List Oper) (n : Nat) (v : Nat → Value) (a : Act), (∀ k o d, l[k]? = some o → o.dst = some d → v (n + k) = a.tmps.getD d undef) → putAll a v n l = a
  | [], _, _, _, _ => rfl
  | o :: rest, n, v, a, h => by
    unfold putAll
    have e : a.put o.dst (v n) = a := by
      cases hd : o.dst with
      | none => rfl
      | some d => have := h 0 o d rfl hd; rw [Nat.add_zero] at this; rw [this]; exact put_same a d
    rw [e]
    exact putAll_first rest (n + 1) v a fun k o' d hk hd => by
      have := h (k + 1) o' d (by simpa using hk) hd
      rwa [show n + (k + 1) = n + 1 + k by omega] at this

def Shut (p : Prop) : Prop := p
theorem Shut.out {p : Prop} (h : Shut p) : p := h

/-- what the region's temporaries hold, and what the others hold -/
theorem eval_out {v : Nat → Value} {d : Tmp} : ∀ (l : List Oper) (n : Nat) (a : Act), d ∉ dsts l → (putAll a v n l).eval (.tmp d) = a.eval (.tmp d)
  | [], _, _, _ => rfl
  | o :: rest, n, a, h => by
    unfold putAll
    unfold dsts at h
    cases ho : o.dst with
    | none => rw [ho] at h; exact eval_out rest (n + 1) _ h
    | some e =>
      rw [ho] at h
      simp only [List.mem_cons, not_or] at h
      rw [eval_out rest (n + 1) _ h.2]
      simp [Act.eval, Act.put, Array.getElem?_setIfInBounds_ne (Ne.symm h.1)]
theorem eval_in {v : Nat → Value} : ∀ (l : List Oper) (n j : Nat) (o : Oper) (d : Tmp) (a : Act), l[j]? = some o → o.dst = some d → (dsts l).Nodup → d < a.tmps.size → (putAll a v n l).eval (.tmp d) = v (n + j)
  | [], _, _, _, _, _, h, _, _, _ => by simp at h
  | x :: rest, n, 0, o, d, a, h, hd, hnd, hs => by
    have hx : x = o := by simpa using h
    subst hx
    unfold putAll
    unfold dsts at hnd
    rw [hd] at hnd ⊢
    rw [eval_out rest (n + 1) _ (List.nodup_cons.1 hnd).1]
    simp [Act.eval, Act.put, hs]
  | x :: rest, n, j + 1, o, d, a, h, hd, hnd, hs => by
    unfold putAll
    have hnd2 : (dsts rest).Nodup := by
      unfold dsts at hnd
      cases he : x.dst with
      | none => rw [he] at hnd; exact hnd
      | some d => rw [he] at hnd; exact (List.nodup_cons.1 hnd).2
    rw [eval_in rest (n + 1) j o d _ (by simpa using h) hd hnd2 (by rw [put_size]; exact hs), show n + 1 + j = n + (j + 1) by omega]

theorem dsts_mem {d : Tmp} {o : Oper} : ∀ (l : List Oper) (j : Nat), l[j]? = some o → o.dst = some d → d ∈ dsts l
  | [], _, h, _ => by simp at h
  | x :: rest, 0, h, hd => by
    have hx : x = o := by simpa using h
    subst hx
    unfold dsts; rw [hd]; simp
  | x :: rest, j + 1, h, hd => by
    have := dsts_mem rest j (by simpa using h) hd
    unfold dsts
    cases x.dst <;> simp [this]

/-- the steps, one a number: what is known when just the operations with 'L' have come up -/
def Flow (P : Program) (all : List Oper) (a : Act) (Q : Exit → Act → World → Prop) (F : (Nat → Bool) → (Nat → Value) → World → Prop) (i : Nat) : List Oper → Prop
  | [] => True
  | o :: rest => (∀ L v W a1, F L v W → L i = false → (∀ e ∈ o.after, Region.binds .any e = true → L e.on = true) →
      (∀ j o' d, all[j]? = some o' → o'.dst = some d → Act.eval a1 (.tmp d) = v j) → (∀ d, (dsts all).contains d = false → Act.eval a1 (.tmp d) = a.eval (.tmp d)) →
      ∀ K : Act → World → Prop, Shut (∀ u W', F (put L i) (upd v i u) W' → K (a1.put o.dst u) W') →
      if Region.wanted o (yielded all.toArray a1.tmps) = true then Oper.wp P o a1 W K Q else K (a1.put o.dst undef) W) ∧ Flow P all a Q F (i + 1) rest

theorem flow_at {F : (Nat → Bool) → (Nat → Value) → World → Prop} {all : List Oper} {a : Act} : ∀ (l : List Oper) (n : Nat), Flow P all a Q F n l → ∀ i o, l[i]? = some o →
    ∀ L v W a1, F L v W → L (n + i) = false → (∀ e ∈ o.after, Region.binds .any e = true → L e.on = true) →
      (∀ j o' d, all[j]? = some o' → o'.dst = some d → Act.eval a1 (.tmp d) = v j) → (∀ d, (dsts all).contains d = false → Act.eval a1 (.tmp d) = a.eval (.tmp d)) →
      ∀ K : Act → World → Prop, (∀ u W', F (put L (n + i)) (upd v (n + i) u) W' → K (a1.put o.dst u) W') →
      if Region.wanted o (yielded all.toArray a1.tmps) = true then Oper.wp P o a1 W K Q else K (a1.put o.dst undef) W := by
  intro l
  induction l with
  | nil => intro n _ i o h; simp at h
  | cons x xs ih =>
    intro n hs i o hi L v W a1 hF h0 hd g1 g2 K hK
    cases i with
    | zero =>
      have : x = o := by simpa using hi
      subst this
      exact hs.1 L v W a1 hF h0 hd g1 g2 K hK
    | succ i =>
      have e : n + (i + 1) = n + 1 + i := by omega
      rw [e] at h0 hK
      exact ih (n + 1) hs.2 i o (by simpa using hi) L v W a1 hF h0 hd g1 g2 K hK

/-- THE RULE, in values. -/
theorem wp_region_flow {id : Nat} {l : List Oper} {a : Act} {w : World} (F : (Nat → Bool) → (Nat → Value) → World → Prop) (hm : P.follows .mixedOrders = true) (ho : ordered l.toArray = true) (ht : tidy a.tmps.size l = true)
    (h0 : ∀ v, F (fun _ => false) v w.drew) (hs : Flow P l a Q F 0 l) (hd : ∀ L v w, (∀ i, Nat.blt i l.length = true → L i = true) → F L v w → Q .normal (putAll a v 0 l) w) : (Code.region id l.toArray true).wp P Q a w := by
  unfold tidy at ht
  simp only [Bool.and_eq_true, decide_eq_true_eq, List.all_eq_true] at ht
  refine wp_region_any hm ?_
  refine wpAny_inv (fun L a' w => ∃ v, a' = putAll a v 0 l ∧ F L v w) ?_ ?_ _ _ _ _ (by simp) ?_ ?_
  · rintro i o hi L _ w ⟨v, rfl, hF⟩ hfree hdep
    have hi' : l[i]? = some o := by simpa using hi
    refine wpOp_step hi fun K hK => ?_
    refine flow_at (P := P) (Q := Q) l 0 hs i o hi' L v w _ hF (by rw [Nat.zero_add]; exact hfree) hdep ?_ ?_ K (fun u W' hF' => hK _ _ ⟨upd v i u, ?_, by rw [Nat.zero_add] at hF'; exact hF'⟩)
    · intro j o' d hj hd
      have hmem : d ∈ dsts l := dsts_mem l j hj hd
      have := eval_in (v := v) l 0 j o' d a hj hd ht.2 (ht.1 d hmem)
      rwa [Nat.zero_add] at this
    · intro d hd
      exact eval_out l 0 a (by intro hm; have := List.contains_iff_mem.2 hm; rw [hd] at this; cases this)
    · have := putAll_upd v u l 0 i o a hi' ht.2
      rwa [Nat.zero_add] at this
  · rintro listed _ w ⟨v, rfl, hF⟩ hr hsz
    exact hd _ v w (fun i hi => all_up ho hr hsz i (by rw [List.size_toArray]; exact Nat.le_of_ble_eq_true hi)) hF
  · unfold todo
    exact Nat.le_trans Array.count_le_size (by simp)
  · have : up (Array.replicate l.toArray.size false) = fun _ => false := by
      funext i; unfold up
      simp only [Array.getD_eq_getD_getElem?, Array.getElem?_replicate]
      split <;> rfl
    rw [this]
    refine ⟨first a l, (putAll_first l 0 _ a fun k o d hk hd => ?_).symm, h0 _⟩
    unfold first
    rw [Nat.zero_add, hk]
    simp [hd]

/-! operations that only reckon, in a state of which only what is asked is known -/
section
variable {o : Oper} {a : Act} {W : World} {K : Act → World → Prop}
theorem wp_move {x : Operand} {u : Value} (ho : o.op = .move x ∨ o.op = .assign x) (hx : a.eval x = u) (hK : K (a.put o.dst u) W) : Oper.wp P o a W K Q := by
  have : (execOp a.eval o).run P W = .ok (.value u) W := by
    rw [← hx]; rcases ho with h | h <;> (unfold execOp; rw [h]; rfl)
  unfold Oper.wp; rw [this]; exact hK
theorem wp_extract {x : Operand} {k : Nat} {xs : Array Value} {u : Value} (ho : o.op = .extract x k) (hx : a.eval x = .tuple xs) (hu : xs[k]? = some u) (hK : K (a.put o.dst u) W) : Oper.wp P o a W K Q := by
  have : (execOp a.eval o).run P W = .ok (.value u) W := by
    unfold execOp; simp only [ho, hx, Instr.extract, hu]; rfl
  unfold Oper.wp; rw [this]; exact hK
theorem wp_fieldAddr {t : TypeId} {x : Operand} {k : Nat} {p u : Value} (ho : o.op = .fieldAddr t x k) (hx : a.eval x = p) (hr : ∀ w, (Instr.fieldAt t p k).run P w = .ok u w) (hK : K (a.put o.dst u) W) : Oper.wp P o a W K Q := by
  have : (execOp a.eval o).run P W = .ok (.value u) W := by
    unfold execOp; simp only [ho, hx, Sem.run_bind, hr, Result.andThen_ok, Sem.run_pure]
  unfold Oper.wp; rw [this]; exact hK
theorem wp_indexAddr {t : TypeId} {x y : Operand} {p n u : Value} (ho : o.op = .indexAddr t x y) (hx : a.eval x = p) (hy : a.eval y = n) (hr : ∀ w, (Instr.indexAt t p n).run P w = .ok u w) (hK : K (a.put o.dst u) W) : Oper.wp P o a W K Q := by
  have : (execOp a.eval o).run P W = .ok (.value u) W := by
    unfold execOp; simp only [ho, hx, hy, Sem.run_bind, hr, Result.andThen_ok, Sem.run_pure]
  unfold Oper.wp; rw [this]; exact hK
theorem wp_unop {op : UnOp} {t : TypeId} {x : Operand} {p u : Value} (ho : o.op = .unOp op t x) (hx : a.eval x = p) (hr : ∀ w, (Op.unary op p).run P w = .ok u w) (hK : K (a.put o.dst u) W) : Oper.wp P o a W K Q := by
  have : (execOp a.eval o).run P W = .ok (.value u) W := by
    unfold execOp; simp only [ho, hx, Sem.run_bind, hr, Result.andThen_ok, Sem.run_pure]
  unfold Oper.wp; rw [this]; exact hK
theorem wp_build {t : TypeId} {ps : Array (Nat × Operand)} {vs : Array (Nat × Value)} {u : Value} (ho : o.op = .build t ps) (hx : (ps.map fun (i, x) => (i, a.eval x)) = vs) (hr : ∀ w, (Instr.build t vs).run P w = .ok u w) (hK : K (a.put o.dst u) W) : Oper.wp P o a W K Q := by
  have : (execOp a.eval o).run P W = .ok (.value u) W := by
    unfold execOp; simp only [ho, hx, Sem.run_bind, hr, Result.andThen_ok, Sem.run_pure]
  unfold Oper.wp; rw [this]; exact hK
theorem wp_pick {c x y : Operand} {b : Bool} {u : Value} (ho : o.op = .pick c x y) (hc : a.eval c = .bool b) (hx : (if b = true then a.eval x else a.eval y) = u) (hK : K (a.put o.dst u) W) : Oper.wp P o a W K Q := by
  have : (execOp a.eval o).run P W = .ok (.value u) W := by
    unfold execOp; simp only [ho, hc, asBool, Sem.run_bind, Result.andThen_ok, Sem.run_pure, hx]
  unfold Oper.wp; rw [this]; exact hK
theorem wp_nilCheck {x : Operand} {p : Addr} (ho : o.op = .nilCheck x) (hx : a.eval x = .pointer (some p)) (hK : K (a.put o.dst (.pointer (some p))) W) : Oper.wp P o a W K Q := by
  have : (execOp a.eval o).run P W = .ok (.value (.pointer (some p))) W := by
    unfold execOp; simp only [ho, hx]; rfl
  unfold Oper.wp; rw [this]; exact hK
theorem wp_binop {op : BinOp} {t s : TypeId} {x y : Operand} {p q u : Value} (ho : o.op = .binOp op t x y s) (hx : a.eval x = p) (hy : a.eval y = q) (hr : ∀ w, (do eqGuard op t x y p q; binOp op t p q : Sem Value).run P w = .ok u w) (hK : K (a.put o.dst u) W) : Oper.wp P o a W K Q := by
  have : (execOp a.eval o).run P W = .ok (.value u) W := by
    have := hr W
    simp only [Sem.run_bind] at this
    unfold execOp; simp only [ho, hx, hy, Sem.run_bind, this, Result.andThen_ok, Sem.run_pure]
  unfold Oper.wp; rw [this]; exact hK
theorem wanted_of {all : List Oper} {j : Nat} {want b : Bool} {o' : Oper} {d : Tmp} (hg : o.guard = some (j, want)) (hj : all[j]? = some o') (hd : o'.dst = some d) (hv : a.eval (.tmp d) = .bool b) :
    Region.wanted o (yielded all.toArray a.tmps) = (b == want) := by
  have h1 : a.tmps[d]? = some (.bool b) := by
    unfold Act.eval at hv
    simp only [Array.getD_eq_getD_getElem?] at hv
    cases h : a.tmps[d]? with
    | none => rw [h] at hv; cases hv
    | some x => rw [h] at hv; simp at hv; rw [hv]
  unfold Region.wanted yielded
  rw [hg]
  simp only [List.getElem?_toArray, hj, Option.bind_some, hd, h1]
  cases b <;> cases want <;> rfl
def bodied (P : Program) (f : FuncId) : Bool := match P.funcs[f]? with | some fn => !(fn.name == "runtime.NumGoroutine") && !fn.body.isNone | none => false
theorem run_callFunc_body {f : FuncId} (h : bodied P f = true) (args : Array Value) (w : World) : (callFunc f args).run P w = .ok (.enter f args) w := by
  unfold bodied at h
  cases hf : P.funcs[f]? with
  | none => rw [hf] at h; cases h
  | some fn =>
    rw [hf] at h
    simp only [Bool.and_eq_true, Bool.not_eq_true'] at h
    unfold callFunc
    simp only [Sem.run_bind, program, Sem.run, Result.andThen_ok, hf, h.1, h.2]
    rfl
theorem wp_call {c : Call} {X : Operand} {f : FuncId} (ho : o.op = .call c) (hc : c.callee = .value X) (hX : a.eval X = .func (.func f) #[] #[]) (args : Array Value) (hargs : c.args.map a.eval = args) (hf : bodied P f = true)
    (h : Calls P f args W fun e W' => ∃ u, e = .returned u ∧ K (a.put o.dst u) W') : Oper.wp P o a W K Q := by
  have : (execOp a.eval o).run P W = .ok (.enter f args) W := by
    unfold execOp
    simp only [ho, resolve, hc, hX, hargs, Deferred.ofValue, Sem.run_bind, Sem.run_pure, Result.andThen_ok, invoke]
    rw [show (#[] ++ args ++ #[] : Array Value) = args by simp, run_callFunc_body hf]
  unfold Oper.wp; rw [this, Oper.upon_enter]
  refine Calls.mono h fun e W' ⟨u, he, hK⟩ => ?_
  subst he; exact hK
end
end Go.Inv
