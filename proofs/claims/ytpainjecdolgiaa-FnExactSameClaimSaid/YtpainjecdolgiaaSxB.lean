/- A symbolic evaluator of closed terms: what it does. -/
import Derived.Test.YtpainjecdolgiaaSxM
namespace Go.Sx
open Go Go.RowKit Go.Flo Go.Mem Go.Proofs.Ytpainjecdolgiaa
set_option linter.unusedVariables false
noncomputable section

inductive Res (α : Type) where
  | ok (a : α)
  | ask (i : Nat) (t : Tb) (k : Bool → Res α)
  | bad (n : Nat)
  | pan (c : C) (t : Tb)
def Res.bind {α β : Type} (r : Res α) (k : α → Res β) : Res β := match r with | .ok a => k a | .ask i t g => .ask i t fun b => (g b).bind k | .bad n => .bad n | .pan c t => .pan c t
/-- the way that is gone where the numbers are 'env' -/
def Res.sel {α : Type} (env : Nat → Sc) : Res α → Option α
  | .ok a => some a
  | .ask i t k => (k (den env t.l i).bv).sel env
  | .bad _ => none
  | .pan _ _ => none
/-- the panic in which the way ends -/
def Res.selP {α : Type} (env : Nat → Sc) : Res α → Option (C × Tb)
  | .ok _ => none
  | .ask i t k => (k (den env t.l i).bv).selP env
  | .bad _ => none
  | .pan c t => some (c, t)
theorem Res.bind_ok {env : Nat → Sc} {α β : Type} {k : α → Res β} {b : β} : ∀ {r : Res α}, (r.bind k).sel env = some b → ∃ a, r.sel env = some a ∧ (k a).sel env = some b
  | .ok a, h => ⟨a, rfl, h⟩
  | .ask i t g, h => Res.bind_ok (r := g (den env t.l i).bv) h
  | .bad n, h => by cases h
  | .pan c t, h => by cases h
theorem Res.bind_pan {env : Nat → Sc} {α β : Type} {k : α → Res β} {q : C × Tb} : ∀ {r : Res α}, (r.bind k).selP env = some q → r.selP env = some q ∨ ∃ a, r.sel env = some a ∧ (k a).selP env = some q
  | .ok a, h => .inr ⟨a, rfl, h⟩
  | .ask i t g, h => Res.bind_pan (r := g (den env t.l i).bv) h
  | .bad n, h => by cases h
  | .pan c t, h => .inl h
def ofOpt {α : Type} (n : Nat) : Option α → Res α | some a => .ok a | none => .bad n
theorem ofOpt_ok {env : Nat → Sc} {α : Type} {n : Nat} {o : Option α} {a : α} (h : (ofOpt n o).sel env = some a) : o = some a := by cases o <;> simp_all [ofOpt, Res.sel]
/-- the values of constants -/
def cellOf (t : Tb) : Value → Option (C × Tb)
  | .float .f32 b => some (.f32 (intern ⟨1, b, 0⟩ t).1, (intern ⟨1, b, 0⟩ t).2)
  | .float .f64 b => bif Nat.blt b 18446744073709551616 then some (.f64 (intern ⟨2, b, 0⟩ t).1, (intern ⟨2, b, 0⟩ t).2) else none
  | .int k n => some (.int k n, t)
  | .bool b => some (.bool b, t)
  | .nilFunc => some (.nilf, t)
  | .pointer none => some (.nilp, t)
  | .slice none 0 0 => some (.nils, t)
  | .nilIface => some (.nili, t)
  | .string s => some (.str (s.data.toList.map fun b => .byt b.toNat), t)
  | _ => none
def cellsOf : Tb → List Value → Option (List C × Tb)
  | t, [] => some ([], t)
  | t, v :: vs => match cellOf t v with
    | none => none
    | some (c, t1) => match cellsOf t1 vs with
      | none => none
      | some (cs, t2) => some (c :: cs, t2)
def partOf (t : Tb) : Value → Option (P × Tb)
  | .agg vs => match cellsOf t vs.toList with | some (cs, t') => some (.agg cs, t') | none => none
  | v => match cellOf t v with | some (c, t') => some (.one c, t') | none => none
def getT (l : List A) : Nat → Option A := List.rec (motive := fun _ => Nat → Option A) (fun _ => none) (fun x _ ih k => Nat.rec (some x) (fun k' _ => ih k') k) l
theorem getT_eq : ∀ (l : List A) (k : Nat), getT l k = l[k]?
  | [], k => rfl
  | x :: l, 0 => rfl
  | x :: l, k + 1 => by
    show getT l k = _
    rw [getT_eq l k]; simp
def setT (v : A) (l : List A) : Nat → List A := List.rec (motive := fun _ => Nat → List A) (fun _ => []) (fun x l ih k => Nat.rec (v :: l) (fun k' _ => x :: ih k') k) l
theorem setT_eq (v : A) : ∀ (l : List A) (k : Nat), setT v l k = l.set k v
  | [], k => rfl
  | x :: l, 0 => rfl
  | x :: l, k + 1 => by
    show x :: setT v l k = _
    rw [setT_eq v l k]; simp
def opnd (tm : List A) (t : Tb) : Operand → Option (A × Tb)
  | .tmp i => match getT tm i with | some x => some (x, t) | none => none
  | .const v => match partOf t v with | some (x, t') => some (.p x, t') | none => none
  | .func f => some (.p (.one (.fn f [])), t)
  | .global _ => none
def part1 (tm : List A) (t : Tb) (x : Operand) : Option (P × Tb) := match opnd tm t x with | some (.p y, t') => some (y, t') | _ => none
def cell1 (tm : List A) (t : Tb) (x : Operand) : Option (C × Tb) := match opnd tm t x with | some (.p (.one y), t') => some (y, t') | _ => none
def opnds (tm : List A) : Tb → List Operand → Option (List A × Tb)
  | t, [] => some ([], t)
  | t, x :: xs => match opnd tm t x with
    | none => none
    | some (y, t1) => match opnds tm t1 xs with
      | none => none
      | some (ys, t2) => some (y :: ys, t2)
def parts (tm : List A) : Tb → List (Nat × Operand) → Option (List (Nat × P) × Tb)
  | t, [] => some ([], t)
  | t, (k, x) :: xs => match part1 tm t x with
    | none => none
    | some (y, t1) => match parts tm t1 xs with
      | none => none
      | some (ys, t2) => some ((k, y) :: ys, t2)

/-- the table, with what a test says -/
def heard (t : Tb) (i : Nat) (b : Bool) : Tb := { t with fs := spread t 8 i b t.fs }
def truth (t : Tb) : C → Res (Bool × Tb)
  | .bool b => .ok (b, t)
  | .bit i p => match told t.fs t i with | some b => .ok (b == p, t) | none => bif Nat.blt i t.n then .ask i t fun b => .ok (b == p, heard t i b) else .bad 4
  | _ => .bad 2

structure Ctx where
  P : Program
  /-- calls: function, arguments, the blocks that may be read, the table, the numbers for new blocks; gives the value, the new blocks, the next number, the table -/
  call : FuncId → List A → Mm → Tb → Nat → Nat → Res (A × Mm × Nat × Tb)

def rowN (P : Program) (t : TypeId) : Option Nat := match P.underlying t, P.info? t with
  | some d, some i => if d.isRow then some i.size else none
  | _, _ => none
/-- a part of some cells, of a type -/
def takeC (Pm : Program) (ty : TypeId) (cs : List C) (off : Nat) : Option P :=
  match rowN Pm ty with
  | some n => bif Nat.beq (subC cs off n).length n then some (.agg (subC cs off n)) else none
  | none => bif one Pm ty then (match cs[off]? with | some c => some (.one c) | none => none) else none
def fillC (place : Nat → Option (Nat × Nat)) (cells : List C) : List (Nat × P) → Option (List C)
  | [] => some cells
  | (i, v) :: rest => match place i with
    | none => none
    | some (off, size) => bif Nat.beq v.cells.length size && Nat.ble (off + v.cells.length) cells.length then fillC place (spliceC cells off v.cells) rest else none
def placesOf (Pm : Program) (ty : TypeId) : Option (Value × (Nat → Option (Nat × Nat))) :=
  match Pm.info? ty, Pm.underlying ty with
  | some it, some (.array _ e) => match it.zero, Pm.info? e with
    | some z, some ie => some (z, fun i => some (i * ie.size, ie.size))
    | _, _ => none
  | some it, some (.struct fields) => match it.zero, fields.toList.mapM (fun f => (Pm.info? f.type).map fun i => (f.offset, i.size)) with
    | some z, some places => some (z, (places.toArray[·]?))
    | _, _ => none
  | _, _ => none
def arith (k : FloatKind) (op : BinOp) : Option Nat :=
  match k, op with
  | .f32, .add => some 3 | .f32, .sub => some 4 | .f32, .mul => some 5 | .f32, .quo => some 6
  | .f64, .add => some 7 | .f64, .sub => some 8 | .f64, .mul => some 9 | .f64, .quo => some 10
  | _, _ => none
/-- number of a test, and what its outcome must be for the operator to say yes -/
def cmpOp : BinOp → Option (Nat × Bool)
  | .lss => some (0, true) | .leq => some (1, true) | .gtr => some (2, true) | .geq => some (3, true) | .eql => some (4, true) | .neq => some (4, false)
  | _ => none
/-- the constant 2 -/
def isTwo (t : Tb) (j : Nat) : Bool := match nodeAt t j with
  | some x => Nat.beq x.k 1 && Nat.beq x.a 1073741824
  | none => false
/-- the constant 1 -/
def isOneB (t : Tb) (j : Nat) : Bool := match nodeAt t j with
  | some x => Nat.beq x.k 1 && Nat.beq x.a 1065353216
  | none => false
/-- the number that a product with 1 is made of -/
def bare1 (t : Tb) (i : Nat) : Nat := match nodeAt t i with
  | some x => bif Nat.beq x.k 5 then (bif isOneB t x.a then x.b else (bif isOneB t x.b then x.a else i)) else i
  | none => i
def arNd1 (k i j : Nat) (t : Tb) : Nd := bif Nat.ble k 4 then ⟨k, bare1 t i, bare1 t j⟩ else arNd k i j
def halfNd (i : Nat) (t : Tb) : Nat × Tb :=
  let h := intern ⟨1, 1056964608, 0⟩ t
  intern (arNd 5 i h.1) h.2
/-- the number whose size, made wide, this is -/
def sizeOfW (t : Tb) (i : Nat) : Option Nat := match nodeAt t i with
  | some ⟨38, a, _⟩ => match nodeAt t a with
    | some ⟨11, u, _⟩ => some u
    | _ => none
  | _ => none
/-- a test of two sizes -/
def sizeNd (k a b : Nat) (t : Tb) : Nat × Tb :=
  let x := intern ⟨37, a, a⟩ t
  let y := intern ⟨37, b, b⟩ x.2
  intern ⟨20 + k, x.1, y.1⟩ y.2
def nzI : Int → Bool | .ofNat n => Nat.blt 0 n | .negSucc _ => true
def binC (op : BinOp) (x y : C) (t : Tb) : Option (C × Tb) :=
  match x, y with
  | .f32 i, .f32 j => match arith .f32 op with
    | some k => bif Nat.beq k 6 && isTwo t j then some (.f32 (halfNd i t).1, (halfNd i t).2) else some (.f32 (intern (arNd1 k i j t) t).1, (intern (arNd1 k i j t) t).2)
    | none => match cmpOp op with
      | some (k, p) => some (.bit (intern ⟨20 + k, i, j⟩ t).1 p, (intern ⟨20 + k, i, j⟩ t).2)
      | none => none
  | .f64 i, .f64 j => match arith .f64 op with
    | some k => some (.f64 (intern ⟨k, i, j⟩ t).1, (intern ⟨k, i, j⟩ t).2)
    | none => match cmpOp op with
      | some (k, p) => match sizeOfW t i, sizeOfW t j with
        | some a, some b => some (.bit (sizeNd k a b t).1 p, (sizeNd k a b t).2)
        | _, _ => some (.bit (intern ⟨25 + k, i, j⟩ t).1 p, (intern ⟨25 + k, i, j⟩ t).2)
      | none => none
  | .int k a, .int k' b => if k = k' then (match op with
      | .add => some (.int k (k.wrap (a + b)), t)
      | .sub => some (.int k (k.wrap (a - b)), t)
      | .mul => some (.int k (k.wrap (a * b)), t)
      | .quo => bif nzI b then some (.int k (k.wrap (a.tdiv b)), t) else none
      | .rem => bif nzI b then some (.int k (a.tmod b), t) else none
      | _ => match cmpOp op with
        | some (n, p) => some (.bool (cmpI n a b == p), t)
        | none => none) else none
  | .num k i, .num k' j => if k = k' then (match cmpOp op with
      | some (n, p) => some (.bit (intern ⟨30 + n, i, j⟩ t).1 p, (intern ⟨30 + n, i, j⟩ t).2)
      | none => none) else none
  | .str ps, .str qs => match op with
      | .add => bif Nat.ble (lenSts ps + lenSts qs) 1000000 then some (.str (ps ++ qs), t) else none
      | .eql => bif sameSts ps qs then some (.bool true, t) else none
      | .neq => bif sameSts ps qs then some (.bool false, t) else none
      | _ => none
  | _, _ => none
/-- two tests are compared: the second one is answered first -/
def settled (x y : C) (t : Tb) : Res (C × Tb) := match x, y with
  | .bit i _, .bit j q => bif Nat.beq i j then .ok (y, t) else (truth t (.bit j q)).bind fun b => .ok (.bool b.1, b.2)
  | _, _ => .ok (y, t)
def isNilC : C → Option Bool
  | .nili => some true
  | .ifc _ _ _ => some false
  | _ => none
/-- an interface's value, compared with nil -/
def binN (op : BinOp) (x y : C) : Option C :=
  match (match op with | .eql => some true | .neq => some false | _ => none) with
  | none => none
  | some w => match x, y with
    | .ifc _ _ _, .nili => some (.bool (false == w))
    | .nili, .ifc _ _ _ => some (.bool (false == w))
    | _, _ => none
def binB (op : BinOp) (x y : C) : Option C :=
  match (match op with | .eql => some true | .neq => some false | _ => none) with
  | none => none
  | some w => match x, y with
    | .bool a, .bool b => some (.bool ((a == b) == w))
    | .bit i p, .bool b => some (.bit i (p == (b == w)))
    | .bool b, .bit i p => some (.bit i (p == (b == w)))
    | .bit i p, .bit j q => bif Nat.beq i j then some (.bool ((p == q) == w)) else none
    | _, _ => none
def newBlock (nid top : Nat) (cs : List C) (t : Tb) : Res (A × Mm × Nat × Tb) := bif Nat.blt nid top then .ok (.p (.one (.ptr nid 0)), [(nid, cs)], nid + 1, t) else .bad 3
def capsOf : List A → Option (List Nat)
  | [] => some []
  | x :: l => match x with
    | .p (.one (.ptr id 0)) => match capsOf l with | some r => some (id :: r) | none => none
    | _ => none
def okV (x : A × Tb) (nid : Nat) : Res (A × Mm × Nat × Tb) := .ok (x.1, [], nid, x.2)

def actMove (X : Ctx) (M : Mm) (tm : List A) (t : Tb) (nid top : Nat) (x : Operand) : Res (A × Mm × Nat × Tb) :=
  (ofOpt 10 (opnd tm t x)).bind fun v => okV v nid
def actAssign (X : Ctx) (M : Mm) (tm : List A) (t : Tb) (nid top : Nat) (x : Operand) : Res (A × Mm × Nat × Tb) :=
  (ofOpt 11 (opnd tm t x)).bind fun v => okV v nid
def actPick (X : Ctx) (M : Mm) (tm : List A) (t : Tb) (nid top : Nat) (c : Operand) (x : Operand) (y : Operand) : Res (A × Mm × Nat × Tb) :=
  (ofOpt 12 (cell1 tm t c)).bind fun c => (truth c.2 c.1).bind fun b => (ofOpt 13 (opnd tm b.2 (bif b.1 then x else y))).bind fun v => okV v nid
def actAlloc (X : Ctx) (M : Mm) (tm : List A) (t : Tb) (nid top : Nat) (ty : TypeId) : Res (A × Mm × Nat × Tb) :=
  match (X.P.info? ty).bind (·.zero) with
    | some z => (ofOpt 14 (partOf t z)).bind fun x => newBlock nid top x.1.cells x.2
    | none => .bad 15
def actBox (X : Ctx) (M : Mm) (tm : List A) (t : Tb) (nid top : Nat) (ty : TypeId) (x : Operand) : Res (A × Mm × Nat × Tb) :=
  (ofOpt 16 (part1 tm t x)).bind fun x => newBlock nid top x.1.cells x.2
def actLoad (X : Ctx) (M : Mm) (tm : List A) (t : Tb) (nid top : Nat) (ty : TypeId) (x : Operand) : Res (A × Mm × Nat × Tb) :=
  (ofOpt 17 (cell1 tm t x)).bind fun x => match x.1 with
    | .ptr id off => match look id M with
      | some cs => (ofOpt 18 (takeC X.P ty cs off)).bind fun y => .ok (.p y, [], nid, x.2)
      | none => .bad 21
    | _ => .bad 22
def actNilCheck (X : Ctx) (M : Mm) (tm : List A) (t : Tb) (nid top : Nat) (x : Operand) : Res (A × Mm × Nat × Tb) :=
  (ofOpt 23 (cell1 tm t x)).bind fun x => match x.1 with
    | .ptr id off => .ok (.p (.one (.ptr id off)), [], nid, x.2)
    | _ => .bad 24
def actFieldAddr (X : Ctx) (M : Mm) (tm : List A) (t : Tb) (nid top : Nat) (ty : TypeId) (x : Operand) (k : Nat) : Res (A × Mm × Nat × Tb) :=
  (ofOpt 25 (cell1 tm t x)).bind fun x => match x.1, X.P.underlying ty with
    | .ptr id off, some (.struct fs) => match fs[k]? with
      | some f => match X.P.info? f.type with
        | some i => bif Nat.beq i.size 0 then .bad 26 else .ok (.p (.one (.ptr id (off + f.offset))), [], nid, x.2)
        | none => .bad 27
      | none => .bad 28
    | _, _ => .bad 29
def actIndexAddr (X : Ctx) (M : Mm) (tm : List A) (t : Tb) (nid top : Nat) (ty : TypeId) (x : Operand) (y : Operand) : Res (A × Mm × Nat × Tb) :=
  (ofOpt 30 (cell1 tm t x)).bind fun x => (ofOpt 31 (cell1 tm x.2 y)).bind fun y => match x.1, y.1, X.P.underlying ty with
    | .ptr id off, .int k (.ofNat n), some (.array len el) => match X.P.info? el with
      | some i => bif Nat.blt n len then .ok (.p (.one (.ptr id (off + n * i.size))), [], nid, y.2) else .bad 32
      | none => .bad 33
    | .slc id off len cap, .int k (.ofNat n), some (.slice el) => match X.P.info? el with
      | some i => bif Nat.blt n len then .ok (.p (.one (.ptr id (off + n * i.size))), [], nid, y.2) else .bad 32
      | none => .bad 33
    | _, _, _ => .bad 34
def actField (X : Ctx) (M : Mm) (tm : List A) (t : Tb) (nid top : Nat) (ty : TypeId) (x : Operand) (k : Nat) : Res (A × Mm × Nat × Tb) :=
  (ofOpt 35 (part1 tm t x)).bind fun x => match x.1, X.P.underlying ty with
    | .agg cs, some (.struct fs) => match fs[k]? with
      | some f => (ofOpt 36 (takeC X.P f.type cs f.offset)).bind fun y => .ok (.p y, [], nid, x.2)
      | none => .bad 39
    | _, _ => .bad 40
def actIndex (X : Ctx) (M : Mm) (tm : List A) (t : Tb) (nid top : Nat) (ty : TypeId) (x : Operand) (y : Operand) : Res (A × Mm × Nat × Tb) :=
  (ofOpt 41 (part1 tm t x)).bind fun x => (ofOpt 42 (cell1 tm x.2 y)).bind fun y => match x.1, y.1, X.P.underlying ty with
    | .agg cs, .int k (.ofNat n), some (.array len el) => match X.P.info? el with
      | some i => bif Nat.blt n len then (ofOpt 43 (takeC X.P el cs (n * i.size))).bind fun z => .ok (.p z, [], nid, y.2) else .bad 46
      | none => .bad 47
    | _, _, _ => .bad 48
def actBuild (X : Ctx) (M : Mm) (tm : List A) (t : Tb) (nid top : Nat) (ty : TypeId) (ps : Array (Nat × Operand)) : Res (A × Mm × Nat × Tb) :=
  match placesOf X.P ty with
    | some (z, pl) => (ofOpt 49 (partOf t z)).bind fun z => (ofOpt 50 (parts tm z.2 ps.toList)).bind fun ps => (ofOpt 51 (fillC pl z.1.cells ps.1)).bind fun cs => .ok (.p (.agg cs), [], nid, ps.2)
    | none => .bad 56
def isAggX (tm : List A) : Operand → Bool
  | .tmp i => match getT tm i with | some (.p (.agg _)) => true | _ => false
  | _ => false
/-- are the integers at these places the same? -/
def eqNums (Pm : Program) (el : TypeId) (cs ds : List C) : List Nat → Tb → Res (Bool × Tb)
  | [], t => .ok (true, t)
  | j :: js, t => match takeC Pm el cs j, takeC Pm el ds j with
    | some (.one (.num k a)), some (.one (.num k' b)) => if k = k' then ((truth (intern ⟨34, a, b⟩ t).2 (.bit (intern ⟨34, a, b⟩ t).1 true)).bind fun r => bif r.1 then eqNums Pm el cs ds js r.2 else .ok (false, r.2)) else .bad 160
    | _, _ => .bad 161
def actEqAgg (X : Ctx) (M : Mm) (tm : List A) (t : Tb) (nid top : Nat) (op : BinOp) (ty : TypeId) (x : Operand) (y : Operand) : Res (A × Mm × Nat × Tb) :=
  match (match op with | .eql => some true | .neq => some false | _ => none) with
  | none => .bad 162
  | some w => (ofOpt 163 (part1 tm t x)).bind fun x => (ofOpt 164 (part1 tm x.2 y)).bind fun y => match x.1, y.1, X.P.underlying ty with
    | .agg cs, .agg ds, some (.array n el) => match X.P.underlying el, X.P.info? el with
      | some (.int _), some i => bif Nat.beq (X.P.cellsOf el) 1 && !X.P.eqGuardType X.P.depth ty then (eqNums X.P el cs ds (List.range n) y.2).bind fun b => .ok (.p (.one (.bool (b.1 == w))), [], nid, b.2) else .bad 165
      | _, _ => .bad 166
    | _, _, _ => .bad 167
def optInt (tm : List A) (t : Tb) : Option Operand → Option (Option (IntKind × Int) × Tb)
  | none => some (none, t)
  | some x => match cell1 tm t x with | some (.int k n, t') => some (some (k, n), t') | _ => none
/-- where an array of n is cut -/
def cutOf : Option (IntKind × Int) → Option (IntKind × Int) → Nat → Option (Nat × Nat)
  | none, none, n => some (0, n)
  | none, some (_, .ofNat h), n => bif Nat.ble h n then some (0, h) else none
  | some (_, .ofNat l), none, n => bif Nat.ble l n then some (l, n) else none
  | some (_, .ofNat l), some (_, .ofNat h), n => bif Nat.ble l h && Nat.ble h n then some (l, h) else none
  | _, _, _ => none
def actSlice (X : Ctx) (M : Mm) (tm : List A) (t : Tb) (nid top : Nat) (ty : TypeId) (x : Operand) (lo hi mx : Option Operand) : Res (A × Mm × Nat × Tb) :=
  match mx with
  | some _ => .bad 170
  | none => (ofOpt 171 (cell1 tm t x)).bind fun x => (ofOpt 172 (optInt tm x.2 lo)).bind fun l => (ofOpt 173 (optInt tm l.2 hi)).bind fun h => match x.1, X.P.underlying ty with
    | .ptr id off, some (.array n el) => match X.P.info? el, cutOf l.1 h.1 n with
      | some i, some (a, b) => .ok (.p (.one (.slc id (bif Nat.beq n a then off else off + a * i.size) (b - a) (n - a))), [], nid, h.2)
      | _, _ => .bad 174
    | _, _ => .bad 176
def actToArr (X : Ctx) (M : Mm) (tm : List A) (t : Tb) (nid top : Nat) (ty : TypeId) (x : Operand) : Res (A × Mm × Nat × Tb) :=
  (ofOpt 177 (cell1 tm t x)).bind fun x => match x.1, X.P.underlying ty with
    | .slc id off len cap, some (.array n _) => bif Nat.ble n len then .ok (.p (.one (.ptr id off)), [], nid, x.2) else .bad 178
    | _, _ => .bad 179
def C.bare : C → Bool
  | .ptr _ _ => false
  | .slc _ _ _ _ => false
  | .fn _ (_ :: _) => false
  | .ifc _ _ bs => bs.all fun | .ptr _ _ => false | _ => true
  | _ => true
def actPanic (X : Ctx) (M : Mm) (tm : List A) (t : Tb) (nid top : Nat) (x : Operand) : Res (A × Mm × Nat × Tb) :=
  (ofOpt 180 (cell1 tm t x)).bind fun x => match x.1 with
    | .ifc ty ag bs => bif C.bare (.ifc ty ag bs) then .pan (.ifc ty ag bs) x.2 else .bad 182
    | _ => .bad 181
def actBinOp (X : Ctx) (M : Mm) (tm : List A) (t : Tb) (nid top : Nat) (op : BinOp) (ty : TypeId) (x : Operand) (y : Operand) : Res (A × Mm × Nat × Tb) :=
  (ofOpt 57 (cell1 tm t x)).bind fun x => (ofOpt 58 (cell1 tm x.2 y)).bind fun y => (settled x.1 y.1 y.2).bind fun y => match binC op x.1 y.1 y.2 with
    | some c => .ok (.p (.one c.1), [], nid, c.2)
    | none => match binB op x.1 y.1, X.P.underlying ty with
      | some c, some .bool => .ok (.p (.one c), [], nid, y.2)
      | none, some (.interface _) => (ofOpt 56 (binN op x.1 y.1)).bind fun c => .ok (.p (.one c), [], nid, y.2)
      | _, _ => .bad 59
def actUnOp (X : Ctx) (M : Mm) (tm : List A) (t : Tb) (nid top : Nat) (x : Operand) : Res (A × Mm × Nat × Tb) :=
  (ofOpt 60 (cell1 tm t x)).bind fun x => match x.1 with
    | .bool b => .ok (.p (.one (.bool !b)), [], nid, x.2)
    | .bit i p => .ok (.p (.one (.bit i !p)), [], nid, x.2)
    | _ => .bad 61
def actNeg (X : Ctx) (M : Mm) (tm : List A) (t : Tb) (nid top : Nat) (x : Operand) : Res (A × Mm × Nat × Tb) :=
  (ofOpt 120 (cell1 tm t x)).bind fun x => match x.1 with
    | .f32 i => .ok (.p (.one (.f32 (intern ⟨18, i, i⟩ x.2).1)), [], nid, (intern ⟨18, i, i⟩ x.2).2)
    | _ => .bad 121
def actBuildSlice (X : Ctx) (M : Mm) (tm : List A) (t : Tb) (nid top : Nat) (ty : TypeId) (len : Nat) (ps : Array (Nat × Operand)) : Res (A × Mm × Nat × Tb) :=
  match X.P.underlying ty with
  | some (.slice el) => match X.P.info? el with
    | some i => match i.zero with
      | some z => (ofOpt 122 (partOf t z)).bind fun z => (ofOpt 123 (parts tm z.2 ps.toList)).bind fun ps =>
        bif Nat.blt 0 (len * i.size) && (Nat.ble (len * i.size) 16777216 && Nat.beq z.1.cells.length i.size) then
          (ofOpt 124 (fillC (fun k => some (k * i.size, i.size)) ((List.replicate len z.1.cells).flatten) ps.1)).bind fun cs =>
            bif Nat.blt nid top then .ok (.p (.one (.slc nid 0 len len)), [(nid, cs)], nid + 1, ps.2) else .bad 125
        else .bad 126
      | none => .bad 127
    | none => .bad 128
  | _ => .bad 129
def actLen (X : Ctx) (M : Mm) (tm : List A) (t : Tb) (nid top : Nat) (c : Call) : Res (A × Mm × Nat × Tb) :=
  match c.args.toList, c.argTypes[0]? with
  | [x], some ty => match X.P.underlying ty with
    | some (.slice el) => (ofOpt 130 (cell1 tm t x)).bind fun x => match x.1 with
      | .nils => .ok (.p (.one (.int .i64 0)), [], nid, x.2)
      | .slc _ _ n _ => .ok (.p (.one (.int .i64 n)), [], nid, x.2)
      | _ => .bad 131
    | _ => .bad 132
  | _, _ => .bad 133
def actConvert (X : Ctx) (M : Mm) (tm : List A) (t : Tb) (nid top : Nat) (ty : TypeId) (ty' : TypeId) (x : Operand) : Res (A × Mm × Nat × Tb) :=
  (ofOpt 62 (cell1 tm t x)).bind fun x => match x.1, X.P.underlying ty, X.P.underlying ty' with
    | .f32 i, some _, some (.float .f64) => .ok (.p (.one (.f64 (intern ⟨11, i, i⟩ x.2).1)), [], nid, (intern ⟨11, i, i⟩ x.2).2)
    | .f32 i, some _, some (.float .f32) => .ok (.p (.one (.f32 i)), [], nid, x.2)
    | .f64 i, some _, some (.float .f64) => .ok (.p (.one (.f64 i)), [], nid, x.2)
    | .f64 i, some _, some (.float .f32) => match nodeAt x.2 i with
      | some y => bif Nat.beq y.k 2 && (kcv .f64 y.a).isNone then .ok (.p (.one (.f32 (intern ⟨1, 2143289344, 0⟩ x.2).1)), [], nid, (intern ⟨1, 2143289344, 0⟩ x.2).2) else .bad 64
      | none => .bad 64
    | _, _, _ => .bad 63
def actExtract (X : Ctx) (M : Mm) (tm : List A) (t : Tb) (nid top : Nat) (x : Operand) (k : Nat) : Res (A × Mm × Nat × Tb) :=
  (ofOpt 64 (opnd tm t x)).bind fun x => match x.1 with
    | .tup l => match l[k]? with | some y => .ok (.p y, [], nid, x.2) | none => .bad 65
    | _ => .bad 66
def actMakeFunc (X : Ctx) (M : Mm) (tm : List A) (t : Tb) (nid top : Nat) (f : FuncId) (fst : Array Operand) (cs : Array Operand) : Res (A × Mm × Nat × Tb) :=
  bif fst.isEmpty then (ofOpt 67 (opnds tm t cs.toList)).bind fun l => (ofOpt 68 (capsOf l.1)).bind fun ids => .ok (.p (.one (.fn f ids)), [], nid, l.2) else .bad 69
def actIface (X : Ctx) (M : Mm) (tm : List A) (t : Tb) (nid top : Nat) (ty : TypeId) (x : Operand) : Res (A × Mm × Nat × Tb) :=
  match X.P.underlying ty with
  | some (.interface _) => .bad 140
  | some _ => (ofOpt 141 (part1 tm t x)).bind fun x => match x.1 with
    | .one c => match c.down with | some b => .ok (.p (.one (.ifc ty false [b])), [], nid, x.2) | none => .bad 142
    | .agg cs => match downs cs with | some bs => .ok (.p (.one (.ifc ty true bs)), [], nid, x.2) | none => .bad 143
  | none => .bad 144
/-- what an assertion gives where it does not hold -/
def assertNo (X : Ctx) (t : Tb) (nid : Nat) (asserted : TypeId) (commaOk : Bool) : Res (A × Mm × Nat × Tb) :=
  bif commaOk then (match (X.P.info? asserted).bind (·.zero) with
    | some z => (ofOpt 147 (partOf t z)).bind fun z => .ok (.tup [z.1, .one (.bool false)], [], nid, z.2)
    | none => .bad 148) else .bad 149
def actAssert (X : Ctx) (M : Mm) (tm : List A) (t : Tb) (nid top : Nat) (x : Operand) (asserted : TypeId) (commaOk : Bool) : Res (A × Mm × Nat × Tb) :=
  (ofOpt 145 (cell1 tm t x)).bind fun x => match X.P.underlying asserted with
    | some (.interface _) => .bad 146
    | some _ => match x.1 with
      | .ifc ty ag bs => bif Nat.beq ty asserted then (match upP ag bs with
        | some p => bif commaOk then .ok (.tup [p, .one (.bool true)], [], nid, x.2) else .ok (.p p, [], nid, x.2)
        | none => .bad 150) else assertNo X x.2 nid asserted commaOk
      | .nili => assertNo X x.2 nid asserted commaOk
      | _ => .bad 151
    | none => .bad 152
/-- the function that a method of a type is, if it is its own -/
def methOf (Pm : Program) (ty : TypeId) (name : String) : Option FuncId :=
  match Pm.info? ty with
  | some i => match i.methods.find? (·.name == name) with
    | some m => bif m.path.isEmpty then (match m.func, Pm.underlying ty with
      | some (f, true), some (.pointer _) => some f
      | some (f, false), some d => match d with | .pointer _ => none | _ => some f
      | _, _ => none) else none
    | none => none
  | none => none
def actInvoke (X : Ctx) (M : Mm) (tm : List A) (t : Tb) (nid top : Nat) (c : Call) (x : Operand) (name : String) : Res (A × Mm × Nat × Tb) :=
  (ofOpt 153 (cell1 tm t x)).bind fun x => match x.1 with
    | .ifc ty ag bs => match methOf X.P ty name, upP ag bs with
      | some f, some p => bif Inv.bodied X.P f then (ofOpt 154 (opnds tm x.2 c.args.toList)).bind fun l => X.call f (.p p :: l.1) M l.2 nid top else .bad 155
      | _, _ => .bad 156
    | _ => .bad 157
def actCall (X : Ctx) (M : Mm) (tm : List A) (t : Tb) (nid top : Nat) (c : Call) : Res (A × Mm × Nat × Tb) :=
  match c.callee with
    | .value x => (ofOpt 70 (cell1 tm t x)).bind fun x => match x.1 with
      | .fn f caps => bif Inv.bodied X.P f then (ofOpt 71 (opnds tm x.2 c.args.toList)).bind fun l => X.call f (l.1 ++ caps.map fun id => .p (.one (.ptr id 0))) M l.2 nid top else .bad 72
      | _ => .bad 73
    | .invoke x name => actInvoke X M tm t nid top c x name
    | .builtin .len => actLen X M tm t nid top c
    | _ => .bad 74
/-- one operation but a store -/
def act (X : Ctx) (M : Mm) (tm : List A) (t : Tb) (nid top : Nat) (o : Oper) : Res (A × Mm × Nat × Tb) :=
  match o.op with
  | .move x => actMove X M tm t nid top x
  | .assign x => actAssign X M tm t nid top x
  | .pick c x y => actPick X M tm t nid top c x y
  | .alloc ty => actAlloc X M tm t nid top ty
  | .box ty x => actBox X M tm t nid top ty x
  | .load ty x => actLoad X M tm t nid top ty x
  | .nilCheck x => actNilCheck X M tm t nid top x
  | .fieldAddr ty x k => actFieldAddr X M tm t nid top ty x k
  | .indexAddr ty x y => actIndexAddr X M tm t nid top ty x y
  | .field ty x k => actField X M tm t nid top ty x k
  | .index ty x y => actIndex X M tm t nid top ty x y
  | .build ty ps => actBuild X M tm t nid top ty ps
  | .binOp op ty x y _ => bif isAggX tm x then actEqAgg X M tm t nid top op ty x y else actBinOp X M tm t nid top op ty x y
  | .unOp .not _ x => actUnOp X M tm t nid top x
  | .unOp .neg _ x => actNeg X M tm t nid top x
  | .buildSlice ty len ps => actBuildSlice X M tm t nid top ty len ps
  | .convert ty ty' x => actConvert X M tm t nid top ty ty' x
  | .extract x k => actExtract X M tm t nid top x k
  | .makeFunc (.func f) fst cs => actMakeFunc X M tm t nid top f fst cs
  | .makeInterface ty x => actIface X M tm t nid top ty x
  | .typeAssert x _ asserted ok => actAssert X M tm t nid top x asserted ok
  | .call c => actCall X M tm t nid top c
  | .slice ty x lo hi mx => actSlice X M tm t nid top ty x lo hi mx
  | .sliceToArrayPointer ty x => actToArr X M tm t nid top ty x
  | .panic x => actPanic X M tm t nid top x
  | _ => .bad 75


/-- what a function's own run is at -/
structure S where
  t : Tb
  tm : List A
  own : Mm
  nid : Nat
def putA (tm : List A) (d : Option Tmp) (v : A) : List A := match d with | some i => setT v tm i | none => tm
/-- where a store leads: the block's place, its number, what then is in it -/
def storeAt (X : Ctx) (own : Mm) (tm : List A) (t : Tb) (ty : TypeId) (x y : Operand) : Res (Nat × Nat × List C × Tb) :=
  (ofOpt 80 (cell1 tm t x)).bind fun x => (ofOpt 81 (part1 tm x.2 y)).bind fun y => match x.1 with
    | .ptr id off => match place id own, X.P.info? ty with
      | some (k, cs), some i => bif Nat.beq i.size y.1.cells.length && Nat.ble (off + y.1.cells.length) cs.length then .ok (k, id, spliceC cs off y.1.cells, y.2) else .bad 82
      | _, _ => .bad 83
    | _ => .bad 84
def step (X : Ctx) (rd : Mm) (top : Nat) (o : Oper) (s : S) : Res S :=
  match o.op with
  | .store ty x y => (storeAt X s.own s.tm s.t ty x y).bind fun r => .ok ⟨r.2.2.2, putA s.tm o.dst .junk, s.own.set r.1 (r.2.1, r.2.2.1), s.nid⟩
  | _ => (act X (s.own ++ rd) s.tm s.t s.nid top o).bind fun r => .ok ⟨r.2.2.2, putA s.tm o.dst r.1, r.2.1 ++ s.own, r.2.2.1⟩
/-- is the operation wanted? -/
def wants (X : Ctx) (ops : Array Oper) (o : Oper) (s : S) : Res (Bool × Tb) :=
  match o.guard with
  | none => .ok (true, s.t)
  | some (j, b) => match (ops[j]?).bind (·.dst) with
    | none => .bad 90
    | some d => match getT s.tm d with
      | some (.p (.one c)) => (truth s.t c).bind fun v => .ok (v.1 == b, v.2)
      | some (.tup []) => .ok (false, s.t)
      | _ => .bad 91
def run (X : Ctx) (rd : Mm) (top : Nat) (ops : Array Oper) : List Oper → S → Res S
  | [], s => .ok s
  | o :: rest, s => (wants X ops o s).bind fun b => bif b.1 then (step X rd top o { s with t := b.2 }).bind fun s' => run X rd top ops rest s' else run X rd top ops rest { s with t := b.2, tm := putA s.tm o.dst (.tup []) }

inductive Ex where
  | normal
  | exit (id : Nat)
  | ret
def rounds (f : S → Res (Ex × S)) : Nat → S → Res (Ex × S)
  | 0, _ => .bad 92
  | n + 1, s => (f s).bind fun r => match r.1 with | .normal => rounds f n r.2 | x => .ok (x, r.2)
/-- the code; 'dr': regions that draw their order -/
def code (X : Ctx) (rd : Mm) (top : Nat) (dr : Array Oper → S → Res S) (fuel : Nat) : Code → S → Res (Ex × S)
  | .skip, s => .ok (.normal, s)
  | .label _, s => .ok (.normal, s)
  | .region _ ops d, s => bif d then (dr ops s).bind fun s' => .ok (.normal, s') else (run X rd top ops ops.toList s).bind fun s' => .ok (.normal, s')
  | .seq a b, s => (code X rd top dr fuel a s).bind fun r => match r.1 with | .normal => code X rd top dr fuel b r.2 | x => .ok (x, r.2)
  | .cond c a b, s => (ofOpt 93 (cell1 s.tm s.t c)).bind fun x => (truth x.2 x.1).bind fun v => bif v.1 then code X rd top dr fuel a { s with t := v.2 } else code X rd top dr fuel b { s with t := v.2 }
  | .block id a, s => (code X rd top dr fuel a s).bind fun r => match r.1 with | .exit i => .ok (bif Nat.beq i id then .normal else .exit i, r.2) | x => .ok (x, r.2)
  | .loop a, s => rounds (code X rd top dr fuel a) fuel s
  | .exit id, s => .ok (.exit id, s)
  | .ret, s => .ok (.ret, s)
  | _, _ => .bad 94
/-- what a function hands back -/
def fetchR (X : Ctx) (s : S) (rd : Mm) : ResultVar → Option P
  | .tmp t => match getT s.tm t with | some (.p x) => some x | _ => none
  | .cell a ty => match getT s.tm a with
    | some (.p (.one (.ptr id off))) => match look id (s.own ++ rd) with
      | some cs => takeC X.P ty cs off
      | none => none
    | _ => none
def fetchAll (X : Ctx) (s : S) (rd : Mm) : List ResultVar → Option (List P)
  | [] => some []
  | r :: rs => match fetchR X s rd r with
    | none => none
    | some x => match fetchAll X s rd rs with | none => none | some xs => some (x :: xs)
def valueOf : List P → A
  | [x] => .p x
  | l => .tup l
def P.bare : P → Bool
  | .one c => c.bare
  | .agg cs => cs.all C.bare
def A.bare : A → Bool
  | .p x => x.bare
  | .tup l => l.all P.bare
  | .junk => true
end
end Go.Sx
