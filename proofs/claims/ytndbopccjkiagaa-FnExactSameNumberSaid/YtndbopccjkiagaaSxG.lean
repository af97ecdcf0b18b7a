/- A symbolic evaluator of closed terms: regions that draw their order. -/
import Derived.Test.YtndbopccjkiagaaSxF
namespace Go.Sx
open Go Go.RowKit Go.Flo Go.Mem Go.Proofs.Ytndbopccjkiagaa
set_option linter.unusedVariables false
set_option linter.unusedSimpArgs false

/-- what an operation of the region comes to -/
structure It where
  v : A
  new : Mm
  st : Option (Nat × Nat × List C)
def depsOf (o : Oper) : List Nat := (o.after.toList.filter fun e => Region.binds .any e).map (·.on)
def clearT (tm : List A) : List Oper → List A
  | [] => tm
  | o :: l => clearT (putA tm o.dst .junk) l
def setDeps (ops : List Oper) (its : List It) (tm : List A) : List Nat → List A
  | [] => tm
  | j :: l => match ops[j]?, its[j]? with
    | some o, some it => setDeps ops its (putA tm o.dst it.v) l
    | _, _ => setDeps ops its tm l
def item (X : Ctx) (M : Mm) (ops : Array Oper) (tm : List A) (t : Tb) (nid top : Nat) (o : Oper) : Res (It × Tb) :=
  (wants X ops o ⟨t, tm, [], 0⟩).bind fun b => bif b then (match o.op with
    | .store ty x y => (ofOpt 110 (cell1 tm t x)).bind fun x => (ofOpt 111 (part1 tm x.2 y)).bind fun y => match x.1 with
      | .ptr id off => match X.P.info? ty with
        | some i => bif Nat.beq i.size y.1.cells.length then .ok (⟨.junk, [], some (id, off, y.1.cells)⟩, y.2) else .bad 112
        | none => .bad 113
      | _ => .bad 114
    | _ => (act X M tm t nid top o).bind fun r => .ok (⟨r.1, r.2.1, none⟩, r.2.2.2)) else .ok (⟨.junk, [], none⟩, t)
/-- first way: the table goes on; second way ('fix'): it stays -/
def pass (X : Ctx) (M : Mm) (ops : Array Oper) (tmC : List A) (fix : Option Tb) (base stride : Nat) : List Oper → Nat → List It → Tb → Res (List It × Tb)
  | [], _, acc, t => .ok (acc, t)
  | o :: l, i, acc, t => (item X M ops (setDeps ops.toList acc tmC (depsOf o)) t (base + i * stride) (base + i * stride + stride) o).bind fun r => match fix with
    | none => pass X M ops tmC fix base stride l (i + 1) (acc ++ [r.1]) r.2
    | some T => bif Nat.beq r.2.n T.n then pass X M ops tmC fix base stride l (i + 1) (acc ++ [r.1]) T else .bad 115
def storesOf : List It → Nat → List (Nat × Nat × Nat × List C)
  | [], _ => []
  | it :: l, k => match it.st with | some (id, off, cs) => (k, id, off, cs) :: storesOf l (k + 1) | none => storesOf l (k + 1)
def storeTo (id : Nat) : List (Nat × Nat × Nat × List C) → Option (Nat × Nat × List C)
  | [] => none
  | x :: l => bif Nat.beq id x.2.1 then some (x.1, x.2.2.1, x.2.2.2) else storeTo id l
structure Blk where
  owner : Option Nat
  id : Nat
  c0 : List C
  st : Option (Nat × List C)
def ownDep (ops : List Oper) (k : Nat) (owner : Option Nat) : Bool := match owner with
  | none => true
  | some j => match ops[k]? with | some o => (depsOf o).contains j | none => false
def blkOf (ops : List Oper) (ss : List (Nat × Nat × Nat × List C)) (owner : Option Nat) (x : Nat × List C) : Option Blk :=
  match storeTo x.1 ss with
  | none => some ⟨owner, x.1, x.2, none⟩
  | some (k, off, cs) => bif Nat.ble (off + cs.length) x.2.length && ownDep ops k owner
      then some ⟨owner, x.1, x.2, some (k, spliceC x.2 off cs)⟩ else none
def blksOf (ops : List Oper) (ss : List (Nat × Nat × Nat × List C)) (owner : Option Nat) : Mm → Option (List Blk)
  | [] => some []
  | x :: l => match blkOf ops ss owner x, blksOf ops ss owner l with | some b, some bs => some (b :: bs) | _, _ => none
def newBlks (ops : List Oper) (ss : List (Nat × Nat × Nat × List C)) : List It → Nat → Option (List Blk)
  | [], _ => some []
  | it :: l, i => match blksOf ops ss (some i) it.new, newBlks ops ss l (i + 1) with | some a, some b => some (a ++ b) | _, _ => none
def Blk.last (b : Blk) : Nat × List C := (b.id, match b.st with | none => b.c0 | some (_, c) => c)
def distinctN : List Nat → Bool
  | [] => true
  | x :: l => !l.contains x && distinctN l
def setAll (ops : List Oper) (its : List It) (tm : List A) : List A := match ops, its with
  | o :: l, it :: m => setAll l m (putA tm o.dst it.v)
  | _, _ => tm
def sameL : List Nd → List Nd → Bool
  | [], [] => true
  | x :: l, y :: m => bif same x y then sameL l m else false
  | _, _ => false
theorem sameL_eq : ∀ {l m : List Nd}, sameL l m = true → l = m
  | [], [], _ => rfl
  | x :: l, y :: m, h => by
    unfold sameL at h
    cases hs : same x y <;> rw [hs] at h <;> simp only [cond_true, cond_false] at h
    · cases h
    · rw [same_eq hs, sameL_eq h]
  | [], _ :: _, h => by cases h
  | _ :: _, [], h => by cases h
def okB (x : Nd) (n : Nat) : Bool := bif Nat.blt x.k 3 then true else (bif Nat.blt x.a n then Nat.blt x.b n else false)
theorem okB_ok {x : Nd} {n : Nat} (h : okB x n = true) : ndOk x n := by
  unfold okB at h
  cases h1 : Nat.blt x.k 3 <;> rw [h1] at h <;> simp only [cond_true, cond_false] at h
  · cases h2 : Nat.blt x.a n <;> rw [h2] at h <;> simp only [cond_true, cond_false] at h
    · cases h
    · exact .inr ⟨Nat.le_of_ble_eq_true h2, Nat.le_of_ble_eq_true h⟩
  · exact .inl (Nat.le_of_ble_eq_true h1)
/-- does a table go on from another one? -/
def extB : Nat → List Nd → Nat → List Nd → Bool
  | n', [], n, l => bif Nat.beq n' n then sameL [] l else false
  | n', x :: r, n, l => bif Nat.beq n' n then sameL (x :: r) l else (bif Nat.blt n n' then (bif okB x (n' - 1) then extB (n' - 1) r n l else false) else false)
theorem extB_spec {env : Nat → Sc} : ∀ {l' : List Nd} {n' n : Nat} {l : List Nd}, WF ⟨n, l⟩ → extB n' l' n l = true → Ext env ⟨n, l⟩ ⟨n', l'⟩
  | [], n', n, l, hw, h => by
    unfold extB at h
    cases h1 : Nat.beq n' n <;> rw [h1] at h <;> simp only [cond_true, cond_false] at h
    · cases h
    · have := beq_eq h1; subst this
      have := sameL_eq h; subst this
      exact Ext.refl hw
  | x :: r, n', n, l, hw, h => by
    unfold extB at h
    cases h1 : Nat.beq n' n <;> rw [h1] at h <;> simp only [cond_true, cond_false] at h
    · cases h2 : Nat.blt n n' <;> rw [h2] at h <;> simp only [cond_true, cond_false] at h
      · cases h
      · cases h3 : okB x (n' - 1) <;> rw [h3] at h <;> simp only [cond_true, cond_false] at h
        · cases h
        · have hlt : n < n' := Nat.le_of_ble_eq_true h2
          have ih := extB_spec (env := env) hw h
          obtain ⟨hn, hwl⟩ := ih.wf
          have hn' : n' - 1 = r.length := hn
          refine ⟨⟨by simp; omega, by rw [← hn']; exact okB_ok h3, hwl⟩, by show n ≤ n'; omega, fun i hi => ?_⟩
          have hi' : i < n := hi
          show den env (x :: r) i = _
          rw [den_lt (by omega)]
          exact ih.den i hi
    · have := beq_eq h1; subst this
      have := sameL_eq h; subst this
      exact Ext.refl hw
def drawn (X : Ctx) (rd : Mm) (top : Nat) (ops : Array Oper) (s : S) : Res S :=
  let l := ops.toList
  let n := l.length
  let stride := (top - s.nid) / (2 * n + 2)
  let tmC := clearT s.tm l
  (pass X (s.own ++ rd) ops tmC none s.nid stride l 0 [] s.t).bind fun p1 =>
    let ids := (storesOf p1.1 0).map (·.2.1)
    let M := s.own.filter (fun x => !ids.contains x.1) ++ rd
    (pass X M ops tmC (some p1.2) s.nid stride l 0 [] p1.2).bind fun p2 =>
      let ss := storesOf p2.1 0
      match blksOf l ss none s.own, newBlks l ss p2.1 0 with
      | some b0, some b1 => bif (distinctN ((b1 ++ b0).map (·.id))) && (distinctN (ss.map (·.2.1)) && (ss.all (fun x => ids.contains x.2.1 && ((b1 ++ b0).map (·.id)).contains x.2.1) && (Nat.ble (s.nid + n * stride) top && (Inv.ordered ops && (Inv.tidy s.tm.length l && extB p1.2.n p1.2.l s.t.n s.t.l)))))
          then .ok ⟨p1.2, setAll l p2.1 s.tm, (b1 ++ b0).map Blk.last, s.nid + n * stride⟩ else .bad 116
      | _, _ => .bad 117

/-! what the passes come to -/
theorem pass_spec {X : Ctx} {M : Mm} {ops : Array Oper} {tmC : List A} {T : Tb} {base stride : Nat} : ∀ {l : List Oper} {i : Nat} {acc out : List It} {t' : Tb}, pass X M ops tmC (some T) base stride l i acc T = .ok (out, t') → acc.length = i →
    out.length = i + l.length ∧ (∀ k, k < i → out[k]? = acc[k]?) ∧ ∀ k o, l[k]? = some o → ∃ it t1, out[i + k]? = some it ∧ item X M ops (setDeps ops.toList (out.take (i + k)) tmC (depsOf o)) T (base + (i + k) * stride) (base + (i + k) * stride + stride) o = .ok (it, t1) ∧ t1.n = T.n
  | [], i, acc, out, t', h, hl => by cases h; exact ⟨by simp [hl], fun _ _ => rfl, fun k o h => by simp at h⟩
  | o :: l, i, acc, out, t', h, hl => by
    unfold pass at h
    have q := Res.bind_ok h; clear h; obtain ⟨⟨it, t1⟩, h1, h⟩ := q
    simp only at h
    cases hb : Nat.beq t1.n T.n <;> rw [hb] at h <;> simp only [cond_true, cond_false] at h
    · cases h
    · obtain ⟨g1, g2, g3⟩ := pass_spec h (by simp [hl])
      have hacc : out.take i = acc := by
        apply List.ext_getElem?
        intro k
        by_cases hk : k < i
        · rw [List.getElem?_take_of_lt hk, g2 k (by omega), List.getElem?_append_left (by omega)]
        · rw [List.getElem?_eq_none (by simp; omega), List.getElem?_eq_none (by omega)]
      refine ⟨by rw [g1]; simp; omega, fun k hk => ?_, fun k o' ho => ?_⟩
      · rw [g2 k (by omega), List.getElem?_append_left (by omega)]
      · cases k with
        | zero =>
          simp only [List.getElem?_cons_zero, Option.some.injEq] at ho
          subst ho
          refine ⟨it, t1, ?_, ?_, beq_eq hb⟩
          · rw [Nat.add_zero, g2 i (by omega), List.getElem?_append_right (by omega)]; simp [hl]
          · rw [Nat.add_zero, hacc]; exact h1
        | succ k =>
          obtain ⟨it', t2, q1, q2, q3⟩ := g3 k o' (by simpa using ho)
          have e : i + 1 + k = i + (k + 1) := by omega
          rw [e] at q1 q2
          exact ⟨it', t2, q1, q2, q3⟩

theorem putA_get {tm : List A} {d : Option Tmp} {v y : A} {t : Nat} (h : (putA tm d v)[t]? = some y) : (d = some t ∧ y = v) ∨ (d ≠ some t ∧ tm[t]? = some y) := by
  cases d with
  | none => exact .inr ⟨by simp, h⟩
  | some i =>
    have h' : (tm.set i v)[t]? = some y := h
    by_cases hi : i = t
    · subst hi
      rw [List.getElem?_set_self'] at h'
      cases ht : tm[i]? with
      | none => rw [ht] at h'; simp at h'
      | some z => rw [ht] at h'; simp at h'; exact .inl ⟨rfl, h'.symm⟩
    · rw [List.getElem?_set_ne hi] at h'
      exact .inr ⟨by simp [hi], h'⟩
theorem clearT_get : ∀ {l : List Oper} {tm : List A} {t : Nat} {y : A}, (clearT tm l)[t]? = some y → y = .junk ∨ (t ∉ Inv.dsts l ∧ tm[t]? = some y)
  | [], tm, t, y, h => .inr ⟨by simp [Inv.dsts], h⟩
  | o :: l, tm, t, y, h => by
    rcases clearT_get (l := l) h with h | ⟨h1, h2⟩
    · exact .inl h
    · rcases putA_get h2 with ⟨_, h3⟩ | ⟨h3, h4⟩
      · exact .inl h3
      · refine .inr ⟨?_, h4⟩
        unfold Inv.dsts
        cases hd : o.dst with
        | none => exact h1
        | some d =>
          simp only [List.mem_cons, not_or]
          exact ⟨fun e => h3 (by rw [hd, e]), h1⟩
theorem setDeps_ok {e : E} {a1 : Act} {ops : List Oper} {its : List It} : ∀ {ds : List Nat} {tm : List A}, TmOk e tm a1 → (∀ j ∈ ds, ∀ o it, ops[j]? = some o → its[j]? = some it → ∀ d, o.dst = some d → Ar e it.v (a1.eval (.tmp d))) → TmOk e (setDeps ops its tm ds) a1
  | [], tm, h, _ => h
  | j :: ds, tm, h, hd => by
    unfold setDeps
    split
    · rename_i o it ho hi
      refine setDeps_ok (fun i y hy => ?_) fun k hk => hd k (List.mem_cons_of_mem _ hk)
      rcases putA_get hy with ⟨h1, h2⟩ | ⟨_, h2⟩
      · subst h2; exact hd j List.mem_cons_self o it ho hi i h1
      · exact h i y h2
    · exact setDeps_ok h fun k hk => hd k (List.mem_cons_of_mem _ hk)
theorem depsOf_mem {o : Oper} {j : Nat} (h : j ∈ depsOf o) : ∃ e ∈ o.after, Region.binds .any e = true ∧ e.on = j := by
  unfold depsOf at h
  obtain ⟨e, he, rfl⟩ := List.mem_map.1 h
  obtain ⟨h1, h2⟩ := List.mem_filter.1 he
  exact ⟨e, by simpa using h1, h2, rfl⟩
end Go.Sx
