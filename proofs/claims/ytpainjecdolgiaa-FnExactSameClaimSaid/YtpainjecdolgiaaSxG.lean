/- A symbolic evaluator of closed terms: regions that draw their order. -/
import Derived.Test.YtpainjecdolgiaaSxF
namespace Go.Sx
open Go Go.RowKit Go.Flo Go.Mem Go.Proofs.Ytpainjecdolgiaa
set_option linter.unusedVariables false
noncomputable section
set_option linter.unusedSimpArgs false

/-- what an operation of the region comes to; 't': the table behind it -/
structure It where
  v : A
  new : Mm
  st : Option (Nat × Nat × List C)
  t : Tb
def depsOf (o : Oper) : List Nat := (o.after.toList.filter fun e => Region.binds .any e).map (·.on)
def clearT (tm : List A) : List Oper → List A
  | [] => tm
  | o :: l => clearT (putA tm o.dst .junk) l
def setDeps (ops : List Oper) (its : List It) (tm : List A) : List Nat → List A
  | [] => tm
  | j :: l => match ops[j]?, its[j]? with
    | some o, some it => setDeps ops its (putA tm o.dst it.v) l
    | _, _ => setDeps ops its tm l
def item (X : Ctx) (M : Mm) (ops : Array Oper) (tm : List A) (t : Tb) (nid top : Nat) (o : Oper) : Res It :=
  (wants X ops o ⟨t, tm, [], 0⟩).bind fun b => bif b.1 then (match o.op with
    | .store ty x y => (ofOpt 110 (cell1 tm b.2 x)).bind fun x => (ofOpt 111 (part1 tm x.2 y)).bind fun y => match x.1 with
      | .ptr id off => match X.P.info? ty with
        | some i => bif Nat.beq i.size y.1.cells.length then .ok ⟨.junk, [], some (id, off, y.1.cells), y.2⟩ else .bad 112
        | none => .bad 113
      | _ => .bad 114
    | _ => (act X M tm b.2 nid top o).bind fun r => .ok ⟨r.1, r.2.1, none, r.2.2.2⟩) else .ok ⟨.tup [], [], none, b.2⟩
def pass (X : Ctx) (M : Nat → List It → Tb → Mm) (ops : Array Oper) (tmC : List A) (base stride : Nat) : List Oper → Nat → List It → Tb → Res (List It)
  | [], _, acc, _ => .ok acc
  | o :: l, i, acc, t => (item X (M i acc t) ops (setDeps ops.toList acc tmC (depsOf o)) t (base + i * stride) (base + i * stride + stride) o).bind fun r =>
    pass X M ops tmC base stride l (i + 1) (acc ++ [r]) r.t
/-- the block that an address belongs to, as far as it is known ahead -/
def rootOf (l : List Oper) (tm : List A) : Nat → Operand → Option Nat
  | 0, _ => none
  | n + 1, x => match x with
    | .tmp t => match l.find? (fun o => match o.dst with | some d => Nat.beq d t | none => false) with
      | some o => match o.op with
        | .fieldAddr _ y _ => rootOf l tm n y
        | .indexAddr _ y _ => rootOf l tm n y
        | .nilCheck y => rootOf l tm n y
        | .move y => rootOf l tm n y
        | .assign y => rootOf l tm n y
        | _ => none
      | none => match tm[t]? with
        | some (.p (.one (.ptr id _))) => some id
        | _ => none
    | _ => none
def rootsOf (all : List Oper) (tm : List A) : List Oper → List Nat
  | [] => []
  | o :: l => match o.op with
    | .store _ x _ => match rootOf all tm 10 x with | some id => id :: rootsOf all tm l | none => rootsOf all tm l
    | _ => rootsOf all tm l
/-- the table ahead of operation k -/
def tabAt (t0 : Tb) (its : List It) (k : Nat) : Tb := match k with | 0 => t0 | k + 1 => match its[k]? with | some it => it.t | none => t0
def lastT (t0 : Tb) : List It → Tb
  | [] => t0
  | [it] => it.t
  | _ :: l => lastT t0 l
def storesOf : List It → Nat → List (Nat × Nat × Nat × List C)
  | [], _ => []
  | it :: l, k => match it.st with | some (id, off, cs) => (k, id, off, cs) :: storesOf l (k + 1) | none => storesOf l (k + 1)
/-- the stores, each with the block that it goes to -/
def storesIn (all : List Oper) (tm : List A) : List Oper → Nat → List (Nat × Nat)
  | [], _ => []
  | o :: l, k => match o.op with
    | .store _ x _ => match rootOf all tm 10 x with | some id => (k, id) :: storesIn all tm l (k + 1) | none => storesIn all tm l (k + 1)
    | _ => storesIn all tm l (k + 1)
/-- operation k waits for operation i -/
def reachB (all : List Oper) : Nat → Nat → Nat → Bool
  | 0, _, _ => false
  | n + 1, k, i => match all[k]? with
    | some o => (depsOf o).any fun j => bif Nat.beq j i then true else reachB all n j i
    | none => false
/-- the blocks that operation i may read: nothing is stored there, or just by operations that wait for i -/
def memAt (all : List Oper) (sts : List (Nat × Nat)) (own : Mm) (i : Nat) : Mm := own.filter fun x => sts.all fun y => bif Nat.beq y.2 x.1 then reachB all 12 y.1 i else true
def isStore (o : Oper) : Bool := match o.op with | .store _ _ _ => true | _ => false
/-- all its entries are below n -/
def ltB (n : Nat) : B → Bool
  | .f32 i => Nat.blt i n
  | .bit i _ => Nat.blt i n
  | .num _ i => Nat.blt i n
  | _ => true
def ltSt (n : Nat) : St → Bool
  | .byt _ => true
  | .hex i => Nat.blt i n
def ltC (n : Nat) : C → Bool
  | .f32 i => Nat.blt i n
  | .f64 i => Nat.blt i n
  | .bit i _ => Nat.blt i n
  | .num _ i => Nat.blt i n
  | .str ps => ps.all (ltSt n)
  | .ifc _ _ bs => bs.all (ltB n)
  | _ => true
/-- what operation j has made is there for operation i, and nothing has been stored into it -/
def madeFor (all : List Oper) (i j : Nat) : Bool := reachB all 12 i j && (List.range all.length).all fun k => match all[k]? with
  | some o => bif isStore o && (depsOf o).contains j then reachB all 12 k i else true
  | none => true
def newFrom (all : List Oper) (i n : Nat) : List It → Nat → Mm
  | [], _ => []
  | it :: l, j => match it.new with
    | [] => newFrom all i n l (j + 1)
    | x :: xs => (bif madeFor all i j then (x :: xs).filter (fun y => y.2.all (ltC n)) else []) ++ newFrom all i n l (j + 1)
/-- the blocks that operation i may read -/
def mayRead (all : List Oper) (sts : List (Nat × Nat)) (own rd : Mm) (i : Nat) (acc : List It) (t : Tb) : Mm := (memAt all sts own i ++ rd) ++ newFrom all i t.n acc 0
def storesTo (id : Nat) : List (Nat × Nat × Nat × List C) → List (Nat × Nat × List C)
  | [] => []
  | x :: l => bif Nat.beq id x.2.1 then (x.1, x.2.2.1, x.2.2.2) :: storesTo id l else storesTo id l
/-- 'st': the stores into the block, each waiting for the ones before: operation, place, cells -/
structure Blk where
  owner : Option Nat
  id : Nat
  c0 : List C
  st : List (Nat × Nat × List C)
def ownDep (ops : List Oper) (k : Nat) (owner : Option Nat) : Bool := match owner with
  | none => true
  | some j => match ops[k]? with | some o => (depsOf o).contains j | none => false
def chained (ops : List Oper) : List (Nat × Nat × List C) → Bool
  | [] => true
  | x :: l => (l.all fun y => reachB ops 12 y.1 x.1) && chained ops l
def blkOf (ops : List Oper) (ss : List (Nat × Nat × Nat × List C)) (owner : Option Nat) (x : Nat × List C) : Option Blk :=
  bif ((storesTo x.1 ss).all fun y => Nat.ble (y.2.1 + y.2.2.length) x.2.length && ownDep ops y.1 owner) && chained ops (storesTo x.1 ss)
    then some ⟨owner, x.1, x.2, storesTo x.1 ss⟩ else none
def blksOf (ops : List Oper) (ss : List (Nat × Nat × Nat × List C)) (owner : Option Nat) : Mm → Option (List Blk)
  | [] => some []
  | x :: l => match blkOf ops ss owner x, blksOf ops ss owner l with | some b, some bs => some (b :: bs) | _, _ => none
def newBlks (ops : List Oper) (ss : List (Nat × Nat × Nat × List C)) : List It → Nat → Option (List Blk)
  | [], _ => some []
  | it :: l, i => match blksOf ops ss (some i) it.new, newBlks ops ss l (i + 1) with | some a, some b => some (a ++ b) | _, _ => none
def Blk.last (b : Blk) : Nat × List C := (b.id, b.st.foldl (fun c y => spliceC c y.2.1 y.2.2) b.c0)
def distinctN : List Nat → Bool
  | [] => true
  | x :: l => !l.contains x && distinctN l
def setAll (ops : List Oper) (its : List It) (tm : List A) : List A := match ops, its with
  | o :: l, it :: m => setAll l m (putA tm o.dst it.v)
  | _, _ => tm
def drawn (X : Ctx) (rd : Mm) (top : Nat) (ops : Array Oper) (s : S) : Res S :=
  let l := ops.toList
  let n := l.length
  let stride := (top - s.nid) / (2 * n + 2)
  let tmC := clearT s.tm l
  let sts := storesIn l s.tm l 0
  (pass X (mayRead l sts s.own rd) ops tmC s.nid stride l 0 [] s.t).bind fun its =>
    let ss := storesOf its 0
    match blksOf l ss none s.own, newBlks l ss its 0 with
    | some b0, some b1 => bif (distinctN ((b1 ++ b0).map (·.id))) && (ss.all (fun x => (b0.all (fun b => !Nat.beq b.id x.2.1 || sts.any (fun y => Nat.beq y.1 x.1 && Nat.beq y.2 b.id))) && ((b1 ++ b0).map (·.id)).contains x.2.1) && (Nat.ble (s.nid + n * stride) top && (Inv.ordered ops && Inv.tidy s.tm.length l)))
        then .ok ⟨lastT s.t its, setAll l its s.tm, (b1 ++ b0).map Blk.last, s.nid + n * stride⟩ else .bad 116
    | _, _ => .bad 117

/-! what the pass comes to -/
theorem pass_spec {env : Nat → Sc} {X : Ctx} {M : Nat → List It → Tb → Mm} {ops : Array Oper} {tmC : List A} {base stride : Nat} : ∀ {l : List Oper} {i : Nat} {acc out : List It} {t : Tb}, (pass X M ops tmC base stride l i acc t).sel env = some out → acc.length = i →
    out.length = i + l.length ∧ (∀ k, k < i → out[k]? = acc[k]?) ∧ (∀ k o, l[k]? = some o → ∃ it, out[i + k]? = some it ∧ (item X (M (i + k) (out.take (i + k)) (match k with | 0 => t | k + 1 => match out[i + k]? with | some it => it.t | none => t)) ops (setDeps ops.toList (out.take (i + k)) tmC (depsOf o)) (match k with | 0 => t | k + 1 => match out[i + k]? with | some it => it.t | none => t) (base + (i + k) * stride) (base + (i + k) * stride + stride) o).sel env = some it)
  | [], i, acc, out, t, h, hl => by cases h; exact ⟨by simp [hl], fun _ _ => rfl, fun k o h => by simp at h⟩
  | o :: l, i, acc, out, t, h, hl => by
    unfold pass at h
    have q := Res.bind_ok h; clear h; obtain ⟨it, h1, h⟩ := q
    obtain ⟨g1, g2, g3⟩ := pass_spec h (by simp [hl])
    have hacc : out.take i = acc := by
      apply List.ext_getElem?
      intro k
      by_cases hk : k < i
      · rw [List.getElem?_take_of_lt hk, g2 k (by omega), List.getElem?_append_left (by omega)]
      · rw [List.getElem?_eq_none (by simp; omega), List.getElem?_eq_none (by omega)]
    have hit : out[i]? = some it := by rw [g2 i (by omega), List.getElem?_append_right (by omega)]; simp [hl]
    refine ⟨by rw [g1]; simp; omega, fun k hk => ?_, fun k o' ho => ?_⟩
    · rw [g2 k (by omega), List.getElem?_append_left (by omega)]
    · cases k with
      | zero =>
        simp only [List.getElem?_cons_zero, Option.some.injEq] at ho
        subst ho
        exact ⟨it, hit, by rw [Nat.add_zero, hacc]; exact h1⟩
      | succ k =>
        obtain ⟨it', q1, q2⟩ := g3 k o' (by simpa using ho)
        have e : i + 1 + k = i + (k + 1) := by omega
        rw [e] at q1 q2
        refine ⟨it', q1, ?_⟩
        cases k with
        | zero => simp only [Nat.add_zero, hit]; exact q2
        | succ k =>
          have e2 : i + 1 + k = i + (k + 1) := by omega
          simp only [e2] at q2
          cases hk : out[i + (k + 1)]? with
          | none =>
            have hlt := (List.getElem?_eq_some_iff.1 q1).1
            have := List.getElem?_eq_none_iff.1 hk
            omega
          | some z => simp only [hk] at q2 ⊢; exact q2
theorem pass_all {env : Nat → Sc} {X : Ctx} {M : Nat → List It → Tb → Mm} {ops : Array Oper} {tmC : List A} {base stride : Nat} {l : List Oper} {out : List It} {t : Tb} (h : (pass X M ops tmC base stride l 0 [] t).sel env = some out) :
    out.length = l.length ∧ ∀ k o, l[k]? = some o → ∃ it, out[k]? = some it ∧ (item X (M k (out.take k) (tabAt t out k)) ops (setDeps ops.toList (out.take k) tmC (depsOf o)) (tabAt t out k) (base + k * stride) (base + k * stride + stride) o).sel env = some it := by
  obtain ⟨g1, _, g3⟩ := pass_spec h rfl
  refine ⟨by rw [g1]; simp, fun k o hk => ?_⟩
  obtain ⟨it, q1, q2⟩ := g3 k o hk
  rw [Nat.zero_add] at q1 q2
  refine ⟨it, q1, ?_⟩
  unfold tabAt
  cases k with
  | zero => exact q2
  | succ k => simp only [Nat.zero_add] at q2; exact q2
theorem lastT_eq (t0 : Tb) : ∀ (its : List It) (n : Nat), its.length = n → lastT t0 its = tabAt t0 its n
  | [], n, h => by subst h; rfl
  | [it], n, h => by subst h; rfl
  | a :: b :: l, n, h => by
    subst h
    have := lastT_eq t0 (b :: l) (l.length + 1) rfl
    show lastT t0 (b :: l) = _
    rw [this]
    show tabAt t0 (b :: l) (l.length + 1) = tabAt t0 (a :: b :: l) (l.length + 1 + 1)
    unfold tabAt
    simp

theorem putA_get {tm : List A} {d : Option Tmp} {v y : A} {t : Nat} (h : (putA tm d v)[t]? = some y) : (d = some t ∧ y = v) ∨ (d ≠ some t ∧ tm[t]? = some y) := by
  cases d with
  | none => exact .inr ⟨by simp, h⟩
  | some i =>
    have h' : (tm.set i v)[t]? = some y := by rw [← setT_eq]; exact h
    by_cases hi : i = t
    · subst hi
      rw [List.getElem?_set_self'] at h'
      cases ht : tm[i]? with
      | none => rw [ht] at h'; simp at h'
      | some z => rw [ht] at h'; simp at h'; exact .inl ⟨rfl, h'.symm⟩
    · rw [List.getElem?_set_ne hi] at h'
      exact .inr ⟨by simp [hi], h'⟩
theorem clearT_get : ∀ {l : List Oper} {tm : List A} {t : Nat} {y : A}, (clearT tm l)[t]? = some y → y = .junk ∨ (t ∉ Inv.dsts l ∧ tm[t]? = some y)
  | [], tm, t, y, h => .inr ⟨by simp [Inv.dsts], h⟩
  | o :: l, tm, t, y, h => by
    rcases clearT_get (l := l) h with h | ⟨h1, h2⟩
    · exact .inl h
    · rcases putA_get h2 with ⟨_, h3⟩ | ⟨h3, h4⟩
      · exact .inl h3
      · refine .inr ⟨?_, h4⟩
        unfold Inv.dsts
        cases hd : o.dst with
        | none => exact h1
        | some d =>
          simp only [List.mem_cons, not_or]
          exact ⟨fun e => h3 (by rw [hd, e]), h1⟩
theorem setDeps_ok {e : E} {a1 : Act} {ops : List Oper} {its : List It} : ∀ {ds : List Nat} {tm : List A}, TmOk e tm a1 → (∀ j ∈ ds, ∀ o it, ops[j]? = some o → its[j]? = some it → ∀ d, o.dst = some d → Ar e it.v (a1.eval (.tmp d))) → TmOk e (setDeps ops its tm ds) a1
  | [], tm, h, _ => h
  | j :: ds, tm, h, hd => by
    unfold setDeps
    split
    · rename_i o it ho hi
      refine setDeps_ok (fun i y hy => ?_) fun k hk => hd k (List.mem_cons_of_mem _ hk)
      rcases putA_get hy with ⟨h1, h2⟩ | ⟨_, h2⟩
      · subst h2; exact hd j List.mem_cons_self o it ho hi i h1
      · exact h i y h2
    · exact setDeps_ok h fun k hk => hd k (List.mem_cons_of_mem _ hk)
theorem depsOf_mem {o : Oper} {j : Nat} (h : j ∈ depsOf o) : ∃ e ∈ o.after, Region.binds .any e = true ∧ e.on = j := by
  unfold depsOf at h
  obtain ⟨e, he, rfl⟩ := List.mem_map.1 h
  obtain ⟨h1, h2⟩ := List.mem_filter.1 he
  exact ⟨e, by simpa using h1, h2, rfl⟩
end
end Go.Sx
