/- A symbolic evaluator of closed terms: the table of values, what stands in variables and cells, and what that says of the model's values. -/
import Derived.Test.YteckjpdfecgljaaFlw
import Derived.Test.YteckjpdfecgljaaMathP
import Derived.Test.YteckjpdfecgljaaMathT
namespace Go.Sx
open Go Go.RowKit Go.Flo Go.Mem Go.Proofs.Yteckjpdfecgljaa
set_option linter.unusedVariables false

/-- a value of the table: its kind, and what it is made of -/
structure Nd where
  k : Nat
  a : Nat
  b : Nat
inductive Sc where
  | f (v : Option Nat)
  | b (v : Bool)
  | i (n : Int)
def Sc.fv : Sc → Option Nat | .f v => v | _ => none
def Sc.bv : Sc → Bool | .b v => v | _ => false
def Sc.iv : Sc → Int | .i v => v | _ => 0

def cmpB (n : Nat) (o : Option Ordering) : Bool :=
  match n with
  | 0 => o == some .lt
  | 1 => o == some .lt || o == some .eq
  | 2 => o == some .gt
  | 3 => o == some .gt || o == some .eq
  | _ => o == some .eq
def cmpI (n : Nat) (x y : Int) : Bool :=
  match n with
  | 0 => decide (x < y)
  | 1 => decide (x ≤ y)
  | 2 => decide (x > y)
  | 3 => decide (x ≥ y)
  | _ => x == y
def arOp (n : Nat) : BinOp := match n with | 0 => .add | 1 => .sub | 2 => .mul | _ => .quo
def bitsN (x : Option Nat) : Nat := match x with | none => 2143289344 | some b => b

/-- the value of an entry, 'D' being those of the earlier ones -/
def ev (env : Nat → Sc) (D : Nat → Sc) (x : Nd) : Sc :=
  match x.k with
  | 0 => env x.a
  | 1 => .f (kcv .f32 x.a)
  | 2 => .f (kcv .f64 x.a)
  | 3 => .f (vop .add .f32 (D x.a).fv (D x.b).fv)
  | 4 => .f (vop .sub .f32 (D x.a).fv (D x.b).fv)
  | 5 => .f (vop .mul .f32 (D x.a).fv (D x.b).fv)
  | 6 => .f (vop .quo .f32 (D x.a).fv (D x.b).fv)
  | 7 => .f (vop .add .f64 (D x.a).fv (D x.b).fv)
  | 8 => .f (vop .sub .f64 (D x.a).fv (D x.b).fv)
  | 9 => .f (vop .mul .f64 (D x.a).fv (D x.b).fv)
  | 10 => .f (vop .quo .f64 (D x.a).fv (D x.b).fv)
  | 11 => .f (wide (D x.a).fv)
  | 12 => .b (finV (D x.a).fv)
  | 13 => .b (smallS (D x.a).fv)
  | 14 => .b (smallI (D x.a).fv)
  | 15 => .f (rootV (D x.a).fv)
  | 16 => .i (bitsN (D x.a).fv)
  | 17 => .b ((D x.a).fv.isNone)
  | 18 => .f ((D x.a).fv.map (Op.negFloat .f32))
  | 19 => .f (sineV (D x.a).fv)
  | 20 => .b (cmpB 0 (vord FloatKind.f32.format (D x.a).fv (D x.b).fv))
  | 21 => .b (cmpB 1 (vord FloatKind.f32.format (D x.a).fv (D x.b).fv))
  | 22 => .b (cmpB 2 (vord FloatKind.f32.format (D x.a).fv (D x.b).fv))
  | 23 => .b (cmpB 3 (vord FloatKind.f32.format (D x.a).fv (D x.b).fv))
  | 24 => .b (cmpB 4 (vord FloatKind.f32.format (D x.a).fv (D x.b).fv))
  | 25 => .b (cmpB 0 (vord FloatKind.f64.format (D x.a).fv (D x.b).fv))
  | 26 => .b (cmpB 1 (vord FloatKind.f64.format (D x.a).fv (D x.b).fv))
  | 27 => .b (cmpB 2 (vord FloatKind.f64.format (D x.a).fv (D x.b).fv))
  | 28 => .b (cmpB 3 (vord FloatKind.f64.format (D x.a).fv (D x.b).fv))
  | 29 => .b (cmpB 4 (vord FloatKind.f64.format (D x.a).fv (D x.b).fv))
  | 30 => .b (cmpI 0 (D x.a).iv (D x.b).iv)
  | 31 => .b (cmpI 1 (D x.a).iv (D x.b).iv)
  | 32 => .b (cmpI 2 (D x.a).iv (D x.b).iv)
  | 33 => .b (cmpI 3 (D x.a).iv (D x.b).iv)
  | 34 => .b (cmpI 4 (D x.a).iv (D x.b).iv)
  | 35 => .b (plainV (D x.a).fv)
  | 36 => .b ((D x.a).bv && (D x.b).bv)
  | 37 => .f (sizeV (D x.a).fv)
  | 38 => .f (absV (D x.a).fv)
  | _ => .i 0

def ndOk (x : Nd) (n : Nat) : Prop := x.k < 3 ∨ (x.a < n ∧ x.b < n)
theorem ev_congr {env : Nat → Sc} {D D' : Nat → Sc} {x : Nd} {n : Nat} (h : ndOk x n) (hD : ∀ i, i < n → D i = D' i) : ev env D x = ev env D' x := by
  unfold ev
  rcases h with h | ⟨ha, hb⟩
  · have : x.k = 0 ∨ x.k = 1 ∨ x.k = 2 := by omega
    rcases this with h | h | h <;> rw [h] <;> rfl
  · rw [hD _ ha, hD _ hb]

/-- tests that are decided -/
abbrev Facts := List (Nat × Bool)
/-- the entries, the newest first; 'ks': their keys, by which they are found; 'fs': the tests that are decided -/
structure Tb where
  n : Nat
  l : List Nd
  ks : List Nat
  fs : Facts
def same (x y : Nd) : Bool := bif Nat.beq x.k y.k then (bif Nat.beq x.a y.a then Nat.beq x.b y.b else false) else false
theorem same_eq {x y : Nd} (h : same x y = true) : x = y := by
  unfold same at h
  cases h1 : Nat.beq x.k y.k <;> rw [h1] at h <;> simp only [cond_true, cond_false] at h
  · cases h
  · cases h2 : Nat.beq x.a y.a <;> rw [h2] at h <;> simp only [cond_true, cond_false] at h
    · cases h
    · have e1 := Nat.eq_of_beq_eq_true h1; have e2 := Nat.eq_of_beq_eq_true h2; have e3 := Nat.eq_of_beq_eq_true h
      cases x; cases y; simp_all
def keyOf (x : Nd) : Nat := Nat.add (Nat.mul (Nat.add (Nat.mul x.b 1180591620717411303424) x.a) 64) x.k
def hit (x : Nd) (l : List Nd) (n : Nat) : Option Nat := match l with | [] => none | y :: _ => bif same x y then some (Nat.pred n) else none
noncomputable def find (x : Nd) (c : Nat) (ks : List Nat) : List Nd → Nat → Option Nat :=
  List.rec (motive := fun _ => List Nd → Nat → Option Nat) (fun _ _ => none) (fun k _ ih l n => Bool.rec (ih l.tail (Nat.pred n)) (hit x l n) (Nat.beq c k)) ks
theorem find_ok {x : Nd} {c : Nat} : ∀ {ks : List Nat} {l : List Nd} {i : Nat}, find x c ks l l.length = some i → i < l.length ∧ l[l.length - 1 - i]? = some x
  | [], l, i, h => by cases h
  | k :: ks, l, i, h => by
    have h' : Bool.rec (find x c ks l.tail (Nat.pred l.length)) (hit x l l.length) (Nat.beq c k) = some i := h
    cases h1 : Nat.beq c k <;> rw [h1] at h'
    · have h2 : find x c ks l.tail l.tail.length = some i := by
        have e : l.tail.length = Nat.pred l.length := by simp
        rw [e]; exact h'
      obtain ⟨g1, g2⟩ := find_ok h2
      cases l with
      | nil => simp at g1
      | cons y l =>
        simp only [List.tail_cons] at g1 g2
        refine ⟨by simp; omega, ?_⟩
        rw [show (y :: l).length - 1 - i = (l.length - 1 - i) + 1 by simp; omega]
        simpa using g2
    · have h2 : hit x l l.length = some i := h'
      unfold hit at h2
      cases l with
      | nil => cases h2
      | cons y l =>
        simp only at h2
        cases hs : same x y <;> rw [hs] at h2 <;> simp only [cond_true, cond_false] at h2
        · cases h2
        · have e := same_eq hs
          subst e
          cases h2
          simp
/-- products do not mind the order -/
def arNd (k i j : Nat) : Nd := bif Nat.beq k 5 && Nat.blt j i then ⟨5, j, i⟩ else ⟨k, i, j⟩
def okB (x : Nd) (n : Nat) : Bool := bif Nat.blt x.k 3 then true else (bif Nat.blt x.a n then Nat.blt x.b n else false)
theorem okB_ok {x : Nd} {n : Nat} (h : okB x n = true) : ndOk x n := by
  unfold okB at h
  cases h1 : Nat.blt x.k 3 <;> rw [h1] at h <;> simp only [cond_true, cond_false] at h
  · cases h2 : Nat.blt x.a n <;> rw [h2] at h <;> simp only [cond_true, cond_false] at h
    · cases h
    · exact .inr ⟨Nat.le_of_ble_eq_true h2, Nat.le_of_ble_eq_true h⟩
  · exact .inl (Nat.le_of_ble_eq_true h1)
theorem ok_okB {x : Nd} {n : Nat} (h : ndOk x n) : okB x n = true := by
  unfold okB
  rcases h with h | ⟨h1, h2⟩
  · rw [show Nat.blt x.k 3 = true from Nat.ble_eq_true_of_le h]; rfl
  · rw [show Nat.blt x.a n = true from Nat.ble_eq_true_of_le h1, show Nat.blt x.b n = true from Nat.ble_eq_true_of_le h2]
    cases Nat.blt x.k 3 <;> rfl
noncomputable def intern (x : Nd) (t : Tb) : Nat × Tb := bif okB x t.n then (match find x (keyOf x) t.ks t.l t.n with | some i => (i, t) | none => (t.n, ⟨Nat.succ t.n, x :: t.l, keyOf x :: t.ks, t.fs⟩)) else (0, t)
def den (env : Nat → Sc) : List Nd → Nat → Sc
  | [], _ => .i 0
  | x :: l, i => if i = l.length then ev env (den env l) x else den env l i
def wfl : List Nd → Prop
  | [] => True
  | x :: l => ndOk x l.length ∧ wfl l
def WF (t : Tb) : Prop := t.n = t.l.length ∧ wfl t.l
theorem den_lt {env : Nat → Sc} {x : Nd} {l : List Nd} {i : Nat} (h : i < l.length) : den env (x :: l) i = den env l i := by
  rw [den.eq_2, if_neg (by omega)]
theorem den_at {env : Nat → Sc} {x : Nd} {l : List Nd} : den env (x :: l) l.length = ev env (den env l) x := by
  rw [den.eq_2, if_pos rfl]
theorem ndOk.mono {x : Nd} {n m : Nat} (h : ndOk x n) (hl : n ≤ m) : ndOk x m := by
  rcases h with h | ⟨a, b⟩
  · exact .inl h
  · exact .inr ⟨by omega, by omega⟩
theorem den_get {env : Nat → Sc} {x : Nd} : ∀ {l : List Nd} {i : Nat}, wfl l → i < l.length → l[l.length - 1 - i]? = some x → ndOk x i ∧ den env l i = ev env (den env l) x
  | [], i, _, h, _ => by simp at h
  | y :: l, i, hw, hi, h => by
    by_cases he : i = l.length
    · subst he
      have hx : y = x := by simpa using h
      subst hx
      refine ⟨hw.1, ?_⟩
      rw [den_at]
      exact ev_congr hw.1 fun j hj => (den_lt hj).symm
    · have hlt : i < l.length := by simp at hi; omega
      rw [show (y :: l).length - 1 - i = (l.length - 1 - i) + 1 by simp; omega] at h
      obtain ⟨h1, h2⟩ := den_get (env := env) hw.2 hlt (by simpa using h)
      refine ⟨h1, ?_⟩
      rw [den_lt hlt, h2]
      exact ev_congr h1 fun j hj => (den_lt (by omega)).symm

def FactsOk (env : Nat → Sc) (fs : Facts) (t : Tb) : Prop := ∀ x ∈ fs, x.1 < t.n ∧ (den env t.l x.1).bv = x.2
/-- a table that goes on -/
structure Ext (env : Nat → Sc) (t t' : Tb) : Prop where
  wf : WF t'
  le : t.n ≤ t'.n
  den : ∀ i, i < t.n → den env t'.l i = den env t.l i
  fk : FactsOk env t.fs t → FactsOk env t'.fs t'
theorem Ext.refl {env : Nat → Sc} {t : Tb} (h : WF t) : Ext env t t := ⟨h, Nat.le_refl _, fun _ _ => rfl, fun h => h⟩
theorem Ext.trans {env : Nat → Sc} {t t' t'' : Tb} (h : Ext env t t') (h' : Ext env t' t'') : Ext env t t'' :=
  ⟨h'.wf, Nat.le_trans h.le h'.le, fun i hi => (h'.den i (Nat.lt_of_lt_of_le hi h.le)).trans (h.den i hi), fun g => h'.fk (h.fk g)⟩
theorem intern_spec {env : Nat → Sc} {x : Nd} {t : Tb} (hw : WF t) (hx : ndOk x t.n) : Ext env t (intern x t).2 ∧ (intern x t).1 < (intern x t).2.n ∧ den env (intern x t).2.l (intern x t).1 = ev env (den env (intern x t).2.l) x := by
  obtain ⟨h1, h2⟩ := hw
  unfold intern
  rw [ok_okB hx]
  simp only [cond_true]
  cases hf : find x (keyOf x) t.ks t.l t.n with
  | some i =>
    rw [h1] at hf
    obtain ⟨g1, g2⟩ := find_ok hf
    exact ⟨Ext.refl ⟨h1, h2⟩, by simp; omega, (den_get h2 g1 g2).2⟩
  | none =>
    refine ⟨⟨⟨by simp [h1], by rw [← h1]; exact hx, h2⟩, by simp, fun i hi => den_lt (by omega), fun hf y hy => ⟨by have := (hf y hy).1; show y.1 < t.n + 1; omega, by rw [den_lt (by have := (hf y hy).1; omega)]; exact (hf y hy).2⟩⟩, by simp, ?_⟩
    show den env (x :: t.l) t.n = _
    rw [h1, den_at]
    exact ev_congr (n := t.l.length) (by rw [← h1]; exact hx) fun j hj => (den_lt hj).symm
theorem intern_ext {env : Nat → Sc} {x : Nd} {t : Tb} (hw : WF t) : Ext env t (intern x t).2 := by
  cases h : okB x t.n
  · unfold intern; rw [h]; exact Ext.refl hw
  · exact (intern_spec hw (okB_ok h)).1

/-! what stands in a cell, in a variable -/
/-- what stands within the value of an interface -/
inductive B where
  | f32 (i : Nat)
  | bit (i : Nat) (p : Bool)
  | num (k : IntKind) (i : Nat)
  | bool (b : Bool)
  | int (k : IntKind) (n : Int)
  | ptr (id off : Nat)
/-- a part of a string: a byte, or the eight digits of a number's bits -/
inductive St where
  | byt (n : Nat)
  | hex (i : Nat)
inductive C where
  | f32 (i : Nat)
  | f64 (i : Nat)
  | bit (i : Nat) (p : Bool)
  | num (k : IntKind) (i : Nat)
  | bool (b : Bool)
  | int (k : IntKind) (n : Int)
  | ptr (id off : Nat)
  | fn (f : FuncId) (caps : List Nat)
  | nilf
  | nilp
  | nils
  | slc (id off len cap : Nat)
  | ifc (t : TypeId) (ag : Bool) (bs : List B)
  | nili
  | str (ps : List St)
inductive P where
  | one (c : C)
  | agg (cs : List C)
inductive A where
  | p (x : P)
  | tup (l : List P)
  | junk

inductive F2 {α β : Type} (R : α → β → Prop) : List α → List β → Prop
  | nil : F2 R [] []
  | cons {a b l m} : R a b → F2 R l m → F2 R (a :: l) (b :: m)
theorem F2.mono {α β : Type} {R S : α → β → Prop} (h : ∀ a b, R a b → S a b) : ∀ {l m}, F2 R l m → F2 S l m
  | _, _, .nil => .nil
  | _, _, .cons a b => .cons (h _ _ a) (F2.mono h b)
theorem F2.length {α β : Type} {R : α → β → Prop} : ∀ {l m}, F2 R l m → l.length = m.length
  | _, _, .nil => rfl
  | _, _, .cons _ b => by simp [F2.length b]
theorem F2.get {α β : Type} {R : α → β → Prop} : ∀ {l : List α} {m : List β}, F2 R l m → ∀ {i : Nat} {a : α}, l[i]? = some a → ∃ b, m[i]? = some b ∧ R a b
  | _, _, .nil, _, _, h => by simp at h
  | _, _, .cons (b := b) hr ht, 0, a, h => ⟨b, rfl, by simp at h; subst h; exact hr⟩
  | _, _, .cons hr ht, i + 1, a, h => by simpa using F2.get ht (by simpa using h)
theorem F2.set {α β : Type} {R : α → β → Prop} : ∀ {l : List α} {m : List β}, F2 R l m → ∀ {i : Nat} {a : α} {b : β}, R a b → F2 R (l.set i a) (m.set i b)
  | _, _, .nil, _, _, _, h => .nil
  | _, _, .cons hr ht, 0, _, _, h => .cons h ht
  | _, _, .cons hr ht, i + 1, _, _, h => .cons hr (F2.set ht h)
theorem F2.append {α β : Type} {R : α → β → Prop} : ∀ {l m l' m'}, F2 R l m → F2 R l' m' → F2 R (l ++ l') (m ++ m')
  | _, _, _, _, .nil, h => h
  | _, _, _, _, .cons hr ht, h => .cons hr (F2.append ht h)

/-- what the values are: the table's, and where the blocks lie -/
structure E where
  D : Nat → Sc
  n : Nat
  ms : Nat → Nat
  K : Nat → Prop
structure E.le (e e' : E) : Prop where
  n : e.n ≤ e'.n
  D : ∀ i, i < e.n → e'.D i = e.D i
  K : ∀ i, e.K i → e'.K i
  ms : ∀ i, e.K i → e'.ms i = e.ms i
theorem E.le.refl (e : E) : e.le e := ⟨Nat.le_refl _, fun _ _ => rfl, fun _ h => h, fun _ _ => rfl⟩
theorem E.le.trans {a b c : E} (h : a.le b) (h' : b.le c) : a.le c :=
  ⟨Nat.le_trans h.n h'.n, fun i hi => (h'.D i (Nat.lt_of_lt_of_le hi h.n)).trans (h.D i hi), fun i hi => h'.K i (h.K i hi), fun i hi => (h'.ms i (h.K i hi)).trans (h.ms i hi)⟩
def mkE (env : Nat → Sc) (t : Tb) (ms : Nat → Nat) (K : Nat → Prop) : E := ⟨den env t.l, t.n, ms, K⟩
theorem Ext.up {env : Nat → Sc} {t t' : Tb} (h : Ext env t t') (ms : Nat → Nat) (K : Nat → Prop) : (mkE env t ms K).le (mkE env t' ms K) := ⟨h.le, h.den, fun _ h => h, fun _ _ => rfl⟩

def Cb (e : E) : B → Value → Prop
  | .f32 i, v => i < e.n ∧ ∃ r, v = .float .f32 r ∧ kcv .f32 r = (e.D i).fv
  | .bit i p, v => i < e.n ∧ v = .bool ((e.D i).bv == p)
  | .num k i, v => i < e.n ∧ v = .int k (e.D i).iv
  | .bool b, v => v = .bool b
  | .int k n, v => v = .int k n
  | .ptr id off, v => e.K id ∧ v = .pointer (some ⟨e.ms id, off, none⟩)
/-- the value within an interface: an aggregate, or one -/
def inner (ag : Bool) (vs : List Value) : Value := match ag with | true => .agg vs.toArray | false => vs.headD (.tuple #[])
def digitB (n : Nat) : UInt8 := UInt8.ofNat (if n < 10 then 48 + n else 87 + n)
/-- eight digits, the highest first -/
def hexB (n : Nat) : List UInt8 := [digitB (n / 268435456 % 16), digitB (n / 16777216 % 16), digitB (n / 1048576 % 16), digitB (n / 65536 % 16), digitB (n / 4096 % 16), digitB (n / 256 % 16), digitB (n / 16 % 16), digitB (n % 16)]
def stB (e : E) : St → List UInt8
  | .byt n => [UInt8.ofNat n]
  | .hex i => hexB (bitsN (e.D i).fv)
def St.ok (e : E) : St → Prop
  | .byt _ => True
  | .hex i => i < e.n
def strB (e : E) (ps : List St) : List UInt8 := (ps.map (stB e)).flatten
def Cr (e : E) : C → Value → Prop
  | .f32 i, v => i < e.n ∧ ∃ r, v = .float .f32 r ∧ kcv .f32 r = (e.D i).fv
  | .f64 i, v => i < e.n ∧ ∃ r, v = .float .f64 r ∧ kcv .f64 r = (e.D i).fv ∧ r < 2 ^ FloatKind.f64.format.width
  | .bit i p, v => i < e.n ∧ v = .bool ((e.D i).bv == p)
  | .num k i, v => i < e.n ∧ v = .int k (e.D i).iv
  | .bool b, v => v = .bool b
  | .int k n, v => v = .int k n
  | .ptr id off, v => e.K id ∧ v = .pointer (some ⟨e.ms id, off, none⟩)
  | .fn f caps, v => (∀ id ∈ caps, e.K id) ∧ v = .func (.func f) #[] (caps.map fun id => .pointer (some ⟨e.ms id, 0, none⟩)).toArray
  | .nilf, v => v = .nilFunc
  | .nilp, v => v = .pointer none
  | .nils, v => v = .slice none 0 0
  | .slc id off len cap, v => e.K id ∧ v = .slice (some ⟨e.ms id, off, none⟩) len cap
  | .ifc t ag bs, v => ∃ vs, v = .iface t (inner ag vs) ∧ F2 (Cb e) bs vs
  | .nili, v => v = .nilIface
  | .str ps, v => (∀ p ∈ ps, p.ok e) ∧ v = .string ⟨(strB e ps).toArray⟩
def Pr (e : E) : P → Value → Prop
  | .one c, v => Cr e c v
  | .agg cs, v => ∃ vs, v = .agg vs.toArray ∧ F2 (Cr e) cs vs
def Ar (e : E) : A → Value → Prop
  | .p x, v => Pr e x v
  | .tup l, v => ∃ vs, v = .tuple vs.toArray ∧ F2 (Pr e) l vs
  | .junk, _ => True
theorem Cb.mono {e e' : E} (h : e.le e') {c : B} {v : Value} (hc : Cb e c v) : Cb e' c v := by
  cases c <;> simp only [Cb] at hc ⊢
  · exact ⟨Nat.lt_of_lt_of_le hc.1 h.n, by rw [h.D _ hc.1]; exact hc.2⟩
  · exact ⟨Nat.lt_of_lt_of_le hc.1 h.n, by rw [h.D _ hc.1]; exact hc.2⟩
  · exact ⟨Nat.lt_of_lt_of_le hc.1 h.n, by rw [h.D _ hc.1]; exact hc.2⟩
  · exact hc
  · exact hc
  · exact ⟨h.K _ hc.1, by rw [h.ms _ hc.1]; exact hc.2⟩
theorem St.mono {e e' : E} (h : e.le e') {p : St} (hp : p.ok e) : p.ok e' ∧ stB e' p = stB e p := by
  cases p with
  | byt n => exact ⟨trivial, rfl⟩
  | hex i => exact ⟨Nat.lt_of_lt_of_le hp h.n, by show hexB (bitsN (e'.D i).fv) = hexB (bitsN (e.D i).fv); rw [h.D _ hp]⟩
theorem strB_mono {e e' : E} (h : e.le e') : ∀ {ps : List St}, (∀ p ∈ ps, p.ok e) → (∀ p ∈ ps, p.ok e') ∧ strB e' ps = strB e ps
  | [], _ => ⟨fun _ h => (by cases h), rfl⟩
  | p :: ps, hp => by
    obtain ⟨h1, h2⟩ := St.mono h (hp p List.mem_cons_self)
    obtain ⟨g1, g2⟩ := strB_mono h (ps := ps) fun q hq => hp q (List.mem_cons_of_mem _ hq)
    refine ⟨fun q hq => ?_, ?_⟩
    · rcases List.mem_cons.1 hq with rfl | hq
      · exact h1
      · exact g1 q hq
    · show stB e' p ++ strB e' ps = stB e p ++ strB e ps
      rw [h2, g2]
theorem Cr.mono {e e' : E} (h : e.le e') {c : C} {v : Value} (hc : Cr e c v) : Cr e' c v := by
  cases c <;> simp only [Cr] at hc ⊢
  · exact ⟨Nat.lt_of_lt_of_le hc.1 h.n, by rw [h.D _ hc.1]; exact hc.2⟩
  · exact ⟨Nat.lt_of_lt_of_le hc.1 h.n, by rw [h.D _ hc.1]; exact hc.2⟩
  · exact ⟨Nat.lt_of_lt_of_le hc.1 h.n, by rw [h.D _ hc.1]; exact hc.2⟩
  · exact ⟨Nat.lt_of_lt_of_le hc.1 h.n, by rw [h.D _ hc.1]; exact hc.2⟩
  · exact hc
  · exact hc
  · exact ⟨h.K _ hc.1, by rw [h.ms _ hc.1]; exact hc.2⟩
  · refine ⟨fun id hi => h.K _ (hc.1 id hi), ?_⟩
    rw [hc.2]; congr 1
    exact congrArg List.toArray (List.map_congr_left fun id hi => by rw [h.ms _ (hc.1 id hi)])
  · exact hc
  · exact hc
  · exact hc
  · exact ⟨h.K _ hc.1, by rw [h.ms _ hc.1]; exact hc.2⟩
  · obtain ⟨vs, h1, h2⟩ := hc; exact ⟨vs, h1, h2.mono fun _ _ => Cb.mono h⟩
  · exact hc
  · exact ⟨(strB_mono h hc.1).1, by rw [(strB_mono h hc.1).2]; exact hc.2⟩
theorem Pr.mono {e e' : E} (h : e.le e') {c : P} {v : Value} (hc : Pr e c v) : Pr e' c v := by
  cases c
  · exact Cr.mono h hc
  · obtain ⟨vs, h1, h2⟩ := hc; exact ⟨vs, h1, h2.mono fun _ _ => Cr.mono h⟩
theorem Ar.mono {e e' : E} (h : e.le e') {c : A} {v : Value} (hc : Ar e c v) : Ar e' c v := by
  cases c
  · exact Pr.mono h hc
  · obtain ⟨vs, h1, h2⟩ := hc; exact ⟨vs, h1, h2.mono fun _ _ => Pr.mono h⟩
  · trivial
theorem Cr.cell {e : E} {c : C} {v : Value} (h : Cr e c v) : v.oneCell' = true ∧ v.cells = #[v] := by
  cases c <;> simp only [Cr] at h
  · obtain ⟨_, r, rfl, _⟩ := h; exact ⟨rfl, rfl⟩
  · obtain ⟨_, r, rfl, _⟩ := h; exact ⟨rfl, rfl⟩
  · obtain ⟨_, rfl⟩ := h; exact ⟨rfl, rfl⟩
  · obtain ⟨_, rfl⟩ := h; exact ⟨rfl, rfl⟩
  · subst h; exact ⟨rfl, rfl⟩
  · subst h; exact ⟨rfl, rfl⟩
  · obtain ⟨_, rfl⟩ := h; exact ⟨rfl, rfl⟩
  · obtain ⟨_, rfl⟩ := h; exact ⟨rfl, rfl⟩
  · subst h; exact ⟨rfl, rfl⟩
  · subst h; exact ⟨rfl, rfl⟩
  · subst h; exact ⟨rfl, rfl⟩
  · obtain ⟨_, rfl⟩ := h; exact ⟨rfl, rfl⟩
  · obtain ⟨_, rfl, _⟩ := h; exact ⟨rfl, rfl⟩
  · subst h; exact ⟨rfl, rfl⟩
  · obtain ⟨_, rfl⟩ := h; exact ⟨rfl, rfl⟩
/-- the cells of a part -/
def P.cells : P → List C
  | .one c => [c]
  | .agg cs => cs
theorem Pr.cells {e : E} {x : P} {v : Value} (h : Pr e x v) : F2 (Cr e) x.cells v.cells.toList := by
  cases x with
  | one c => rw [(Cr.cell h).2]; exact .cons h .nil
  | agg cs => obtain ⟨vs, rfl, h2⟩ := h; exact h2
theorem all_cells {e : E} : ∀ {cs : List C} {vs : List Value}, F2 (Cr e) cs vs → vs.all (·.oneCell') = true
  | _, _, .nil => rfl
  | _, _, .cons a b => by simp only [List.all_cons, (Cr.cell a).1, all_cells b, Bool.and_self]

def B.up : B → C
  | .f32 i => .f32 i
  | .bit i p => .bit i p
  | .num k i => .num k i
  | .bool b => .bool b
  | .int k n => .int k n
  | .ptr id off => .ptr id off
def C.down : C → Option B
  | .f32 i => some (.f32 i)
  | .bit i p => some (.bit i p)
  | .num k i => some (.num k i)
  | .bool b => some (.bool b)
  | .int k n => some (.int k n)
  | .ptr id off => some (.ptr id off)
  | _ => none
theorem up_ok {e : E} {b : B} {v : Value} (h : Cb e b v) : Cr e b.up v := by cases b <;> exact h
theorem ups_ok {e : E} : ∀ {bs : List B} {vs : List Value}, F2 (Cb e) bs vs → F2 (Cr e) (bs.map B.up) vs
  | _, _, .nil => .nil
  | _, _, .cons a b => .cons (up_ok a) (ups_ok b)
theorem down_ok {e : E} {c : C} {b : B} {v : Value} (hb : c.down = some b) (h : Cr e c v) : Cb e b v := by
  cases c <;> simp only [C.down] at hb <;> first | (cases hb; exact h) | cases hb
def downs : List C → Option (List B)
  | [] => some []
  | c :: cs => match c.down with
    | none => none
    | some b => match downs cs with
      | none => none
      | some bs => some (b :: bs)
theorem downs_ok {e : E} : ∀ {cs : List C} {bs : List B} {vs : List Value}, downs cs = some bs → F2 (Cr e) cs vs → F2 (Cb e) bs vs
  | [], bs, vs, h, hf => by cases h; cases hf; exact .nil
  | c :: cs, bs, vs, h, hf => by
    unfold downs at h
    split at h
    · cases h
    · rename_i b hb
      split at h
      · cases h
      · rename_i bs' hbs
        cases h
        cases hf with
        | cons h1 h2 => exact .cons (down_ok hb h1) (downs_ok hbs h2)
/-- what an interface's value is, taken out -/
def upP (ag : Bool) (bs : List B) : Option P := match ag, bs with
  | true, bs => some (.agg (bs.map B.up))
  | false, [b] => some (.one b.up)
  | _, _ => none
theorem upP_ok {e : E} {ag : Bool} {bs : List B} {vs : List Value} {p : P} (hp : upP ag bs = some p) (h : F2 (Cb e) bs vs) : Pr e p (inner ag vs) := by
  unfold upP at hp
  split at hp
  · cases hp; exact ⟨vs, rfl, ups_ok h⟩
  · cases hp
    cases h with
    | cons h1 h2 => cases h2; exact up_ok h1
  · cases hp
def sameSt : St → St → Bool
  | .byt n, .byt m => Nat.beq n m
  | .hex i, .hex j => Nat.beq i j
  | _, _ => false
def sameSts : List St → List St → Bool
  | [], [] => true
  | a :: l, b :: m => bif sameSt a b then sameSts l m else false
  | _, _ => false
theorem sameSt_eq {a b : St} (h : sameSt a b = true) : a = b := by
  cases a <;> cases b <;> simp only [sameSt] at h <;> first | (rw [Nat.eq_of_beq_eq_true h]) | cases h
theorem sameSts_eq : ∀ {l m : List St}, sameSts l m = true → l = m
  | [], [], _ => rfl
  | [], _ :: _, h => by cases h
  | _ :: _, [], h => by cases h
  | a :: l, b :: m, h => by
    unfold sameSts at h
    cases hs : sameSt a b <;> rw [hs] at h <;> simp only [cond_true, cond_false] at h
    · cases h
    · rw [sameSt_eq hs, sameSts_eq h]
def lenSt : St → Nat | .byt _ => 1 | .hex _ => 8
def lenSts : List St → Nat
  | [] => 0
  | a :: l => lenSt a + lenSts l
theorem lenSts_ok {e : E} : ∀ (ps : List St), (strB e ps).length = lenSts ps
  | [] => rfl
  | a :: l => by
    show (stB e a ++ strB e l).length = _
    rw [List.length_append, lenSts_ok l]
    show _ = lenSt a + lenSts l
    cases a <;> rfl
theorem strB_append {e : E} (ps qs : List St) : strB e (ps ++ qs) = strB e ps ++ strB e qs := by unfold strB; simp

/-! memory -/
abbrev Mm := List (Nat × List C)
/-- the blocks of 'M' lie there -/
def Br (e : E) (x : Nat × List C) (y : Nat × List Value) : Prop := e.K x.1 ∧ y.1 = e.ms x.1 ∧ F2 (Cr e) x.2 y.2
theorem Br.mono {e e' : E} (h : e.le e') {x : Nat × List C} {y : Nat × List Value} (hb : Br e x y) : Br e' x y :=
  ⟨h.K _ hb.1, by rw [h.ms _ hb.1]; exact hb.2.1, hb.2.2.mono fun _ _ => Cr.mono h⟩
def look (id : Nat) : Mm → Option (List C)
  | [] => none
  | x :: M => bif Nat.beq id x.1 then some x.2 else look id M
theorem F2.mem_look {e : E} {id : Nat} {cs : List C} : ∀ {M : Mm} {l : Blocks}, F2 (Br e) M l → look id M = some cs → ∃ vs, (e.ms id, vs) ∈ l ∧ F2 (Cr e) cs vs ∧ e.K id
  | _, _, .nil, h => by cases h
  | _, _, .cons (a := x) (b := y) hr ht, h => by
    unfold look at h
    cases hc : Nat.beq id x.1 <;> rw [hc] at h <;> simp only [cond_true, cond_false] at h
    · obtain ⟨vs, h1, h2, h3⟩ := F2.mem_look ht h
      exact ⟨vs, List.mem_cons_of_mem _ h1, h2, h3⟩
    · cases h
      have he := Nat.eq_of_beq_eq_true hc
      subst he
      obtain ⟨h1, h2, h3⟩ := hr
      exact ⟨y.2, by rw [← h2]; exact List.mem_cons_self, h3, h1⟩
/-- where a block stands in the list -/
def place (id : Nat) : Mm → Option (Nat × List C)
  | [] => none
  | x :: M => bif Nat.beq id x.1 then some (0, x.2) else match place id M with | some (k, cs) => some (k + 1, cs) | none => none
theorem F2.at_place {e : E} {id k : Nat} {cs : List C} : ∀ {M : Mm} {l : Blocks}, F2 (Br e) M l → place id M = some (k, cs) → ∃ vs, l[k]? = some (e.ms id, vs) ∧ F2 (Cr e) cs vs ∧ M[k]? = some (id, cs) ∧ e.K id
  | _, _, .nil, h => by cases h
  | _, _, .cons (a := x) (b := y) (l := M') hr ht, h => by
    unfold place at h
    cases hc : Nat.beq id x.1 <;> rw [hc] at h <;> simp only [cond_true, cond_false] at h
    · cases hp : place id M' with
      | none => rw [hp] at h; cases h
      | some q =>
        rw [hp] at h; cases h
        obtain ⟨vs, h1, h2, h3, h4⟩ := F2.at_place ht hp
        exact ⟨vs, by simpa using h1, h2, by simpa using h3, h4⟩
    · cases h
      have he := Nat.eq_of_beq_eq_true hc
      subst he
      obtain ⟨h1, h2, h3⟩ := hr
      exact ⟨y.2, by simp [← h2], h3, by simp, h1⟩
/-- 'sub', 'splice' of related lists -/
def subC : List C → Nat → Nat → List C
  | _, _, 0 => []
  | [], _, _ => []
  | c :: cs, 0, n + 1 => c :: subC cs 0 n
  | _ :: cs, o + 1, n => subC cs o n
theorem F2.sub {e : E} : ∀ {cs : List C} {vs : List Value} (o n : Nat), F2 (Cr e) cs vs → F2 (Cr e) (subC cs o n) (Mem.sub vs o n)
  | cs, vs, o, 0, _ => by
    have h1 : subC cs o 0 = [] := by cases cs <;> cases o <;> rfl
    have h2 : Mem.sub vs o 0 = [] := by cases vs <;> cases o <;> rfl
    rw [h1, h2]; exact .nil
  | _, _, o, n + 1, .nil => by
    have h1 : subC [] o (n + 1) = [] := by cases o <;> rfl
    have h2 : Mem.sub [] o (n + 1) = [] := by cases o <;> rfl
    rw [h1, h2]; exact .nil
  | _, _, 0, n + 1, .cons a b => .cons a (F2.sub 0 n b)
  | _, _, o + 1, n + 1, .cons a b => F2.sub o (n + 1) b
theorem F2.nilr {e : E} {vs : List Value} (h : F2 (Cr e) [] vs) : vs = [] := by cases h; rfl
def spliceC : List C → Nat → List C → List C
  | cs, _, [] => cs
  | [], _, _ => []
  | _ :: cs, 0, v :: vs => v :: spliceC cs 0 vs
  | c :: cs, o + 1, vs => c :: spliceC cs o vs
theorem F2.splice {e : E} : ∀ {cs : List C} {vs : List Value} (o : Nat) {ns : List C} {us : List Value}, F2 (Cr e) cs vs → F2 (Cr e) ns us → F2 (Cr e) (spliceC cs o ns) (Mem.splice vs o us)
  | cs, vs, o, _, _, h, .nil => by
    have h1 : spliceC cs o [] = cs := by cases cs <;> rfl
    have h2 : Mem.splice vs o [] = vs := by cases vs <;> rfl
    rw [h1, h2]; exact h
  | _, _, o, _, _, .nil, .cons _ _ => .nil
  | _, _, 0, _, _, .cons a b, .cons c d => .cons c (F2.splice 0 b d)
  | _, _, o + 1, _, _, .cons a b, .cons c d => .cons a (F2.splice o b (.cons c d))
end Go.Sx
