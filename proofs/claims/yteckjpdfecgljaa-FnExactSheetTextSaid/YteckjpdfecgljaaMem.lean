/- Memory as a list of blocks: what a function made since it began, and what lies before it; one law an operation. -/
import Derived.WalkKit
import Derived.WalkMore
import Derived.Handy
import Derived.Deep.MidRow
import Derived.Deep.Draws
import Derived.Laws.NewBlocks
import Derived.Below
import Derived.Lib.Hide
import Derived.KernelRfl
import Derived.Test.YteckjpdfecgljaaInv
namespace Go.Mem
open Go Go.RowKit

set_option linter.unusedVariables false
abbrev Blocks := List (Nat × List Value)

/-- 'l': the blocks made since 'w0', which may be written; 'r': blocks that lay there before, which are only read -/
structure Mem (w0 W : World) (r l : Blocks) : Prop where
  below : Below w0.heap.size w0 W
  old : ∀ x ∈ r, x.1 < w0.heap.size ∧ W.rangeAt x.1 0 x.2
  new : ∀ x ∈ l, w0.heap.size ≤ x.1 ∧ x.1 < W.heap.size ∧ W.rangeAt x.1 0 x.2 ∧ W.there x.1 0 x.2.length
  apart : (l.map (·.1)).Nodup

theorem Mem.start (w0 : World) : Mem w0 w0 [] [] := ⟨Below.refl _ _, fun _ h => (by cases h), fun _ h => (by cases h), List.nodup_nil⟩
theorem Mem.start_old {w0 : World} {r : Blocks} (h : ∀ x ∈ r, x.1 < w0.heap.size ∧ w0.rangeAt x.1 0 x.2) : Mem w0 w0 r [] := ⟨Below.refl _ _, h, fun _ h => (by cases h), List.nodup_nil⟩

theorem range_below {W W' : World} {b o : Nat} {cs : List Value} (hb : Below W.heap.size W W') (hl : b < W.heap.size) (h : W.rangeAt b o cs) : W'.rangeAt b o cs := fun j v hv => by
  rw [hb.cell (p := ⟨b, o + j, none⟩) hl]; exact h j v hv
theorem there_below {W W' : World} {b o n : Nat} (hb : Below W.heap.size W W') (hl : b < W.heap.size) (h : W.there b o n) : W'.there b o n := fun j hj => by
  rw [hb.cell (p := ⟨b, o + j, none⟩) hl, hb.frozen (p := ⟨b, o + j, none⟩) hl]; exact h j hj

theorem Mem.call {w0 W W' : World} {r l : Blocks} (h : Mem w0 W r l) (hb : Below W.heap.size W W') : Mem w0 W' r l :=
  ⟨h.below.trans (hb.mono h.below.size),
   fun x hx => ⟨(h.old x hx).1, range_below hb (Nat.lt_of_lt_of_le (h.old x hx).1 h.below.size) (h.old x hx).2⟩,
   fun x hx => ⟨(h.new x hx).1, Nat.lt_of_lt_of_le (h.new x hx).2.1 hb.size, range_below hb (h.new x hx).2.1 (h.new x hx).2.2.1, there_below hb (h.new x hx).2.1 (h.new x hx).2.2.2⟩,
   h.apart⟩
theorem below_draws {B : Nat} {a w : World} (h : Below B a w) (n : Nat) : Below B a (w.drewN n) := ⟨h.os, h.tape, h.output, h.size, h.block⟩
theorem Mem.draws {w0 W : World} {r l : Blocks} (h : Mem w0 W r l) (n : Nat) : Mem w0 (W.drewN n) r l := h.call (below_draws (Below.refl _ _) n)
theorem Mem.drew {w0 W : World} {r l : Blocks} (h : Mem w0 W r l) : Mem w0 W.drew r l := h.call (Below.refl _ _).drew

theorem Mem.alloc {w0 W : World} {r l : Blocks} (h : Mem w0 W r l) (cs : Array Value) (t : TypeId) : Mem w0 (W.alloc (.cells cs t)) r ((W.heap.size, cs.toList) :: l) := by
  have hb : Below W.heap.size W (W.alloc (.cells cs t)) := (Below.refl _ _).alloc (Nat.le_refl _) _
  have hc := h.call hb
  have hcell : ∀ j, (W.alloc (.cells cs t)).cell? ⟨W.heap.size, j, none⟩ = cs[j]? := fun j => World.cell?_alloc_at cs t _ j rfl
  refine ⟨hc.below, hc.old, fun x hx => ?_, ?_⟩
  · rcases List.mem_cons.1 hx with rfl | hx
    · refine ⟨h.below.size, by simp, fun j v hv => ?_, fun j hj => ⟨?_, ?_⟩⟩
      · rw [Nat.zero_add, hcell]; simpa using hv
      · rw [Nat.zero_add, hcell]; simp at hj; simp [hj]
      · exact World.frozen?_alloc_at cs t _ _ rfl
    · exact hc.new x hx
  · simp only [List.map_cons, List.nodup_cons]
    refine ⟨fun hm => ?_, h.apart⟩
    obtain ⟨x, hx, he⟩ := List.mem_map.1 hm
    have := (h.new x hx).2.1; omega

/-- cells of which some have been written anew -/
def splice : List Value → Nat → List Value → List Value
  | cs, _, [] => cs
  | [], _, _ => []
  | _ :: cs, 0, v :: vs => v :: splice cs 0 vs
  | c :: cs, o + 1, vs => c :: splice cs o vs

theorem splice_length : ∀ (cs : List Value) (o : Nat) (vs : List Value), (splice cs o vs).length = cs.length
  | cs, _, [] => by cases cs <;> rfl
  | [], _, _ :: _ => rfl
  | c :: cs, 0, v :: vs => by simp [splice, splice_length cs 0 vs]
  | c :: cs, o + 1, v :: vs => by simp [splice, splice_length cs o (v :: vs)]

theorem splice_get : ∀ (cs : List Value) (o : Nat) (vs : List Value) (j : Nat), o + vs.length ≤ cs.length → (splice cs o vs)[j]? = if o ≤ j ∧ j < o + vs.length then vs[j - o]? else cs[j]?
  | cs, o, [], j, _ => by
    have : ¬ (o ≤ j ∧ j < o + ([] : List Value).length) := by simp
    rw [if_neg this]; cases cs <;> rfl
  | [], o, v :: vs, j, h => by simp at h
  | _ :: cs, 0, v :: vs, j, h => by
    cases j with
    | zero => simp [splice]
    | succ j =>
      have ih := splice_get cs 0 vs j (by simp at h ⊢; omega)
      simp only [splice, List.getElem?_cons_succ, ih, Nat.zero_le, true_and, Nat.sub_zero, Nat.zero_add, List.length_cons, Nat.add_lt_add_iff_right]
  | c :: cs, o + 1, v :: vs, j, h => by
    cases j with
    | zero => simp [splice]
    | succ j =>
      have ih := splice_get cs o (v :: vs) j (by simp at h ⊢; omega)
      simp only [splice, List.getElem?_cons_succ, ih, List.length_cons]
      have e : j + 1 - (o + 1) = j - o := by omega
      rw [e]
      by_cases hc : o ≤ j ∧ j < o + (vs.length + 1)
      · rw [if_pos hc, if_pos (by omega)]
      · rw [if_neg hc, if_neg (by omega)]

theorem below_setCells {B b : Nat} (hB : B ≤ b) : ∀ (vs : List Value) (o : Nat) {a w : World}, Below B a w → Below B a (w.setCells b o vs)
  | [], _, _, _, h => h
  | v :: r, o, _, _, h => by
    rw [World.setCells]
    exact below_setCells hB r (o + 1) (h.setCell (p := ⟨b, o, none⟩) hB v)
theorem size_setCells {b : Nat} : ∀ (vs : List Value) (o : Nat) (w : World), (w.setCells b o vs).heap.size = w.heap.size
  | [], _, _ => rfl
  | v :: r, o, w => by rw [World.setCells, size_setCells r]; simp

theorem Mem.store {w0 W : World} {r l : Blocks} (h : Mem w0 W r l) {k b : Nat} {cs : List Value} (hk : l[k]? = some (b, cs)) (o : Nat) (vs : List Value) (hf : o + vs.length ≤ cs.length) :
    W.there b o vs.length ∧ Mem w0 (W.setCells b o vs) r (l.set k (b, splice cs o vs)) := by
  have hm : (b, cs) ∈ l := List.mem_of_getElem? hk
  obtain ⟨h1, h2, h3, h4⟩ := h.new _ hm
  have ht : W.there b o vs.length := fun j hj => by have := h4 (o + j) (by simp only []; omega); rwa [Nat.zero_add] at this
  refine ⟨ht, below_setCells h1 vs o h.below, fun x hx => ⟨(h.old x hx).1, ?_⟩, fun x hx => ?_, ?_⟩
  · have hne : x.1 ≠ b := by have := (h.old x hx).1; simp only [] at h1; omega
    exact World.rangeAt_setCells_apart (h.old x hx).2 _ _ _ (.inl hne)
  · rw [size_setCells]
    obtain ⟨j, hj⟩ := List.mem_iff_getElem?.1 hx
    by_cases hjk : j = k
    · subst hjk
      have hlt : j < l.length := (List.getElem?_eq_some_iff.1 hk).1
      rw [List.getElem?_set_self hlt] at hj
      cases hj
      refine ⟨h1, h2, fun i v hv => ?_, by rw [splice_length]; exact World.there_setCells h4 _ _ _⟩
      rw [splice_get cs o vs i hf] at hv
      rw [Nat.zero_add]
      split at hv
      · rename_i hc
        have h5 := World.rangeAt_setCells_same W b o vs ht (i - o) v hv
        rwa [show o + (i - o) = i by omega] at h5
      · rename_i hc
        have h6 := h3 i v hv
        rw [Nat.zero_add] at h6
        rw [World.cell?_setCells_out b vs o W ⟨b, i, none⟩ (fun _ _ => by simp only []; omega)]
        exact h6
    · rw [List.getElem?_set_ne (Ne.symm hjk)] at hj
      have hxl : x ∈ l := List.mem_of_getElem? hj
      obtain ⟨g1, g2, g3, g4⟩ := h.new x hxl
      have hne : x.1 ≠ b := by
        intro he
        have hnd := h.apart
        have q1 : (l.map (·.1))[j]? = some b := by rw [List.getElem?_map, hj]; simp [he]
        have q2 : (l.map (·.1))[k]? = some b := by rw [List.getElem?_map, hk]; rfl
        have hlt : j < (l.map (·.1)).length := (List.getElem?_eq_some_iff.1 q1).1
        exact hjk ((List.getElem?_inj hlt hnd).1 (q1.trans q2.symm))
      exact ⟨g1, g2, World.rangeAt_setCells_apart g3 _ _ _ (.inl hne), World.there_setCells g4 _ _ _⟩
  · have : (l.set k (b, splice cs o vs)).map (·.1) = l.map (·.1) := by
      rw [List.map_set]
      refine List.ext_getElem? fun i => ?_
      by_cases hik : i = k
      · subst hik
        have hlt : i < (l.map (·.1)).length := by simp; exact (List.getElem?_eq_some_iff.1 hk).1
        rw [List.getElem?_set_self hlt, List.getElem?_map, hk]; rfl
      · rw [List.getElem?_set_ne (Ne.symm hik)]
    rw [this]; exact h.apart
end Go.Mem

namespace Go.Mem
open Go Go.RowKit
section
variable {P : Program} {ops : Array Oper} {rest : List Oper} {o : Oper} {a : Act} {W : World} {K : Act → World → Prop} {Q : Exit → Act → World → Prop} {w0 : World} {r l : Blocks}

def one (P : Program) (t : TypeId) : Bool := match P.underlying t with | some d => !d.isRow && decide ((P.info? t).map (·.size) = some 1) | none => false
def row (P : Program) (t : TypeId) (n : Nat) : Bool := match P.underlying t with | some d => d.isRow && decide ((P.info? t).map (·.size) = some n) | none => false
def sub : List Value → Nat → Nat → List Value
  | _, _, 0 => []
  | [], _, _ => []
  | c :: cs, 0, n + 1 => c :: sub cs 0 n
  | _ :: cs, o + 1, n => sub cs o n
theorem sub_get : ∀ (cs : List Value) (o n j : Nat) (v : Value), (sub cs o n)[j]? = some v → cs[o + j]? = some v
  | _, _, 0, _, _, h => by simp [sub] at h
  | [], _, _ + 1, _, _, h => by simp [sub] at h
  | c :: cs, 0, n + 1, j, v, h => by
    cases j with
    | zero => simpa [sub] using h
    | succ j =>
      have := sub_get cs 0 n j v (by simpa [sub] using h)
      rw [Nat.zero_add] at this
      simpa using this
  | c :: cs, o + 1, n + 1, j, v, h => by
    have := sub_get cs o (n + 1) j v (by simpa [sub] using h)
    rw [show o + 1 + j = o + j + 1 by omega]
    simpa using this

theorem row_spec {t : TypeId} {n : Nat} (h : row P t n = true) : ∃ d, P.underlying t = some d ∧ d.isRow = true ∧ (P.info? t).map (·.size) = some n := by
  unfold row at h
  cases hu : P.underlying t with
  | none => rw [hu] at h; cases h
  | some d =>
    rw [hu] at h
    simp only [Bool.and_eq_true, decide_eq_true_eq] at h
    exact ⟨d, rfl, h.1, h.2⟩
theorem one_spec {t : TypeId} (h : one P t = true) : ∃ d, P.underlying t = some d ∧ d.isRow = false ∧ (P.info? t).map (·.size) = some 1 := by
  unfold one at h
  cases hu : P.underlying t with
  | none => rw [hu] at h; cases h
  | some d =>
    rw [hu] at h
    simp only [Bool.and_eq_true, decide_eq_true_eq, Bool.not_eq_true'] at h
    exact ⟨d, rfl, h.1, h.2⟩

theorem Mem.rangeAt (h : Mem w0 W r l) {b : Nat} {cs : List Value} (hk : (b, cs) ∈ l ∨ (b, cs) ∈ r) : W.rangeAt b 0 cs := by
  rcases hk with hk | hk
  · exact (h.new _ hk).2.2.1
  · exact (h.old _ hk).2

theorem run_load_row {t : TypeId} {b off n : Nat} {cs vs : List Value} (hr : W.rangeAt b 0 cs) (ht : row P t n = true) (hs : sub cs off n = vs) (hn : vs.length = n) :
    (Instr.loadAt t (.pointer (some ⟨b, off, none⟩))).run P W = .ok (.agg vs.toArray) W := by
  obtain ⟨d, hu, hd, hi⟩ := row_spec ht
  refine run_loadAt_mid W b off t vs d (fun j v hv => ?_) hu hd (by rw [hn]; exact hi)
  have := hr (off + j) v (sub_get cs off n j v (by rw [hs]; exact hv))
  rwa [Nat.zero_add] at this
theorem run_load_one {t : TypeId} {b off : Nat} {cs : List Value} {v : Value} (hr : W.rangeAt b 0 cs) (ht : one P t = true) (hs : cs[off]? = some v) :
    (Instr.loadAt t (.pointer (some ⟨b, off, none⟩))).run P W = .ok v W := by
  obtain ⟨d, hu, hd, hi⟩ := one_spec ht
  have hc : W.cell? ⟨b, off, none⟩ = some v := by have := hr off v hs; rwa [Nat.zero_add] at this
  have hagg : (isAgg t).run P W = .ok false W := by
    unfold isAgg
    rw [Sem.run_bind, run_underlying hu W]
    cases d <;> simp_all [TypeDesc.isRow]
  simp [Instr.loadAt, Instr.sureAddr, loadVar, Sem.run_bind, hagg, run_load, hc]

theorem run_store_any {t : TypeId} {b off : Nat} {v : Value} {vs : List Value} (ht : W.there b off vs.length) (hv : v.cells.toList = vs) (hi : (P.info? t).map (·.size) = some vs.length) (h1 : vs.all (·.oneCell') = true) :
    (Instr.storeAt t (.pointer (some ⟨b, off, none⟩)) v).run P W = .ok () (W.setCells b off vs) := by
  subst hv
  have := run_storeCells_cells (P := P) b off v.cells.toList 0 W (fun j hj => by simpa using (ht j hj).1) (fun j hj => by simpa using (ht j hj).2)
    (fun u hu => List.all_eq_true.1 h1 u hu)
  cases hq : P.info? t with
  | none => simp [hq] at hi
  | some i =>
    have hs : v.cells.size = i.size := by simp [hq] at hi; omega
    simp only [Nat.add_zero] at this
    simp [Instr.storeAt, Instr.sureAddr, storeVar, sizeOf, typeInfo, hq, hs, this, Sem.run_bind]

/-! the operations -/
theorem wp_val {v : Value} (h : (execOp a.eval o).run P W = .ok (.value v) W) (hK : K (a.put o.dst v) W) : Oper.wp P o a W K Q := by
  unfold Oper.wp; rw [h]; exact hK
theorem wp_load_row (HM : Mem w0 W r l) (n : Nat) {t : TypeId} {x : Operand} (ho : o.op = .load t x) {b off : Nat} (hx : a.eval x = .pointer (some ⟨b, off, none⟩)) (ht : row P t n = true) {cs vs : List Value} (hk : (b, cs) ∈ l ∨ (b, cs) ∈ r)
    (hs : sub cs off n = vs) (hn : vs.length = n) (hK : K (a.put o.dst (.agg vs.toArray)) W) : Oper.wp P o a W K Q := by
  refine wp_val ?_ hK
  unfold execOp
  simp only [ho, hx, Sem.run_bind, run_load_row (HM.rangeAt hk) ht hs hn, Result.andThen_ok, Sem.run_pure]
theorem wp_load_one (HM : Mem w0 W r l) {t : TypeId} {x : Operand} (ho : o.op = .load t x) {b off : Nat} (hx : a.eval x = .pointer (some ⟨b, off, none⟩)) (ht : one P t = true) {cs : List Value} {v : Value} (hk : (b, cs) ∈ l ∨ (b, cs) ∈ r)
    (hs : cs[off]? = some v) (hK : K (a.put o.dst v) W) : Oper.wp P o a W K Q := by
  refine wp_val ?_ hK
  unfold execOp
  simp only [ho, hx, Sem.run_bind, run_load_one (HM.rangeAt hk) ht hs, Result.andThen_ok, Sem.run_pure]
theorem wp_store (HM : Mem w0 W r l) {t : TypeId} {x y : Operand} (ho : o.op = .store t x y) {b off : Nat} (hx : a.eval x = .pointer (some ⟨b, off, none⟩)) {v : Value} (hy : a.eval y = v) {vs : List Value} (hv : v.cells.toList = vs)
    (hi : (P.info? t).map (·.size) = some vs.length) (h1 : vs.all (·.oneCell') = true) (k : Nat) {cs : List Value} (hk : l[k]? = some (b, cs)) (hf : off + vs.length ≤ cs.length)
    (hK : ∀ W', Mem w0 W' r (l.set k (b, splice cs off vs)) → K (a.put o.dst undef) W') : Oper.wp P o a W K Q := by
  obtain ⟨ht, hM⟩ := HM.store hk off vs hf
  unfold Oper.wp execOp
  simp only [ho, hx, hy, Sem.run_bind, run_store_any ht hv hi h1, Result.andThen_ok, Sem.run_pure]
  exact hK _ hM
theorem wp_box (HM : Mem w0 W r l) {t : TypeId} {x : Operand} (ho : o.op = .box t x) {v : Value} (hx : a.eval x = v) {vs : List Value} (hv : v.cells.toList = vs)
    (hK : ∀ g W', w0.heap.size ≤ g → Mem w0 W' r ((g, vs) :: l) → K (a.put o.dst (.pointer (some ⟨g, 0, none⟩))) W') : Oper.wp P o a W K Q := by
  have hM := HM.alloc v.cells t
  rw [hv] at hM
  unfold Oper.wp execOp
  simp only [ho, hx, Instr.box, newVar, newRow, Sem.run_bind, run_newObj_alloc, Result.andThen_ok, Sem.run_pure]
  exact hK _ _ HM.below.size hM
theorem wp_alloc (HM : Mem w0 W r l) {t : TypeId} (ho : o.op = .alloc t) {v : Value} (hz : ∀ w, (zeroValue t).run P w = .ok v w) {vs : List Value} (hv : v.cells.toList = vs)
    (hK : ∀ g W', w0.heap.size ≤ g → Mem w0 W' r ((g, vs) :: l) → K (a.put o.dst (.pointer (some ⟨g, 0, none⟩))) W') : Oper.wp P o a W K Q := by
  have hM := HM.alloc v.cells t
  rw [hv] at hM
  unfold Oper.wp execOp
  simp only [ho, Instr.alloc, newVar, newRow, Sem.run_bind, hz, run_newObj_alloc, Result.andThen_ok, Sem.run_pure]
  exact hK _ _ HM.below.size hM

@[go_sem] theorem sub_zero (cs : List Value) (o : Nat) : sub cs o 0 = [] := by cases cs <;> cases o <;> rfl
@[go_sem] theorem sub_here (c : Value) (cs : List Value) (n : Nat) : sub (c :: cs) 0 (n + 1) = c :: sub cs 0 n := rfl
@[go_sem] theorem sub_past (c : Value) (cs : List Value) (o n : Nat) : sub (c :: cs) (o + 1) (n + 1) = sub cs o (n + 1) := rfl

theorem wpList_load_row (HM : Mem w0 W r l) (n : Nat) (hgd : o.guard = none) {t : TypeId} {x : Operand} (ho : o.op = .load t x) {b off : Nat} (hx : a.eval x = .pointer (some ⟨b, off, none⟩)) (ht : row P t n = true) {cs vs : List Value} (hk : (b, cs) ∈ l ∨ (b, cs) ∈ r)
    (hs : sub cs off n = vs) (hn : vs.length = n) (h : wpList P ops Q rest (a.put o.dst (.agg vs.toArray)) W) : wpList P ops Q (o :: rest) a W :=
  wpList_plain hgd fun _ hK => wp_load_row HM n ho hx ht hk hs hn (hK _ _ h)
theorem wpList_load_one (HM : Mem w0 W r l) (hgd : o.guard = none) {t : TypeId} {x : Operand} (ho : o.op = .load t x) {b off : Nat} (hx : a.eval x = .pointer (some ⟨b, off, none⟩)) (ht : one P t = true) {cs : List Value} {v : Value} (hk : (b, cs) ∈ l ∨ (b, cs) ∈ r)
    (hs : cs[off]? = some v) (h : wpList P ops Q rest (a.put o.dst v) W) : wpList P ops Q (o :: rest) a W :=
  wpList_plain hgd fun _ hK => wp_load_one HM ho hx ht hk hs (hK _ _ h)
theorem wpList_store (HM : Mem w0 W r l) (k : Nat) (hgd : o.guard = none) {t : TypeId} {x y : Operand} (ho : o.op = .store t x y) {b off : Nat} (hx : a.eval x = .pointer (some ⟨b, off, none⟩)) {v : Value} (hy : a.eval y = v) {cs : List Value} (hk : l[k]? = some (b, cs)) {vs : List Value} (hv : v.cells.toList = vs)
    (hi : (P.info? t).map (·.size) = some vs.length) (h1 : vs.all (·.oneCell') = true) (hf : Nat.ble (off + vs.length) cs.length = true)
    (h : ∀ W', Mem w0 W' r (l.set k (b, splice cs off vs)) → wpList P ops Q rest (a.put o.dst undef) W') : wpList P ops Q (o :: rest) a W :=
  wpList_plain hgd fun _ hK => wp_store HM ho hx hy hv hi h1 k hk (Nat.le_of_ble_eq_true hf) fun W' hM => hK _ _ (h W' hM)
theorem wpList_box (HM : Mem w0 W r l) (hgd : o.guard = none) {t : TypeId} {x : Operand} (ho : o.op = .box t x) {v : Value} (hx : a.eval x = v) {vs : List Value} (hv : v.cells.toList = vs)
    (h : ∀ g W', w0.heap.size ≤ g → Mem w0 W' r ((g, vs) :: l) → wpList P ops Q rest (a.put o.dst (.pointer (some ⟨g, 0, none⟩))) W') : wpList P ops Q (o :: rest) a W :=
  wpList_plain hgd fun _ hK => wp_box HM ho hx hv fun g W' hg hM => hK _ _ (h g W' hg hM)
theorem wpList_alloc (HM : Mem w0 W r l) (hgd : o.guard = none) {t : TypeId} (ho : o.op = .alloc t) {v : Value} (hz : ∀ w, (zeroValue t).run P w = .ok v w) {vs : List Value} (hv : v.cells.toList = vs)
    (h : ∀ g W', w0.heap.size ≤ g → Mem w0 W' r ((g, vs) :: l) → wpList P ops Q rest (a.put o.dst (.pointer (some ⟨g, 0, none⟩))) W') : wpList P ops Q (o :: rest) a W :=
  wpList_plain hgd fun _ hK => wp_alloc HM ho hz hv fun g W' hg hM => hK _ _ (h g W' hg hM)
end
end Go.Mem

namespace Go.Mem
open Go Go.RowKit
set_option linter.unusedVariables false
/-! blocks that a region itself makes or writes, in whatever order: apart from those of 'l' -/
def Box (w0 W : World) (l : Blocks) (n : Nat) (u : Value) : Prop := ∃ g, u = .pointer (some ⟨g, 0, none⟩) ∧ w0.heap.size ≤ g ∧ g < W.heap.size ∧ (∀ x ∈ l, x.1 ≠ g) ∧ W.there g 0 n
def Full (w0 W : World) (l : Blocks) (n : Nat) (u x : Value) : Prop := ∃ g, u = .pointer (some ⟨g, 0, none⟩) ∧ w0.heap.size ≤ g ∧ g < W.heap.size ∧ (∀ x ∈ l, x.1 ≠ g) ∧ W.there g 0 n ∧ x.cells.size = n ∧ W.rangeAt g 0 x.cells.toList
theorem Box.call {w0 W W' : World} {l : Blocks} {n : Nat} {u : Value} (h : Box w0 W l n u) (hb : Below W.heap.size W W') : Box w0 W' l n u := by
  obtain ⟨g, h1, h2, h3, h4, h5⟩ := h
  exact ⟨g, h1, h2, Nat.lt_of_lt_of_le h3 hb.size, h4, there_below hb h3 h5⟩
theorem Full.call {w0 W W' : World} {l : Blocks} {n : Nat} {u x : Value} (h : Full w0 W l n u x) (hb : Below W.heap.size W W') : Full w0 W' l n u x := by
  obtain ⟨g, h1, h2, h3, h4, h5, h6, h7⟩ := h
  exact ⟨g, h1, h2, Nat.lt_of_lt_of_le h3 hb.size, h4, there_below hb h3 h5, h6, range_below hb h3 h7⟩
theorem Full.box {w0 W : World} {l : Blocks} {n : Nat} {u x : Value} (h : Full w0 W l n u x) : Box w0 W l n u := by
  obtain ⟨g, h1, h2, h3, h4, h5, _⟩ := h
  exact ⟨g, h1, h2, h3, h4, h5⟩
section
variable {P : Program} {o : Oper} {a : Act} {W : World} {K : Act → World → Prop} {Q : Exit → Act → World → Prop} {w0 : World} {r l : Blocks}
theorem wp_alloc_box (HM : Mem w0 W r l) {t : TypeId} (ho : o.op = .alloc t) {v : Value} (hz : ∀ w, (zeroValue t).run P w = .ok v w) {n : Nat} (hn : v.cells.size = n)
    (hK : ∀ u W', Mem w0 W' r l → Below W.heap.size W W' → Box w0 W' l n u → (∀ m q, Box w0 W l m q → q ≠ u) → K (a.put o.dst u) W') : Oper.wp P o a W K Q := by
  have hb : Below W.heap.size W (W.alloc (.cells v.cells t)) := (Below.refl _ _).alloc (Nat.le_refl _) _
  unfold Oper.wp execOp
  simp only [ho, Instr.alloc, newVar, newRow, Sem.run_bind, hz, run_newObj_alloc, Result.andThen_ok, Sem.run_pure]
  refine hK _ _ (HM.call hb) hb ⟨W.heap.size, rfl, HM.below.size, by simp, fun x hx => by have := (HM.new x hx).2.1; omega, fun j hj => ⟨?_, World.frozen?_alloc_at _ t _ _ rfl⟩⟩ ?_
  · rw [Nat.zero_add, World.cell?_alloc_at v.cells t _ j rfl]; simp; omega
  · rintro m q ⟨g, rfl, _, hg, _⟩ he
    cases he; omega
theorem Mem.away (h : Mem w0 W r l) {b : Nat} (h0 : w0.heap.size ≤ b) (hl : ∀ x ∈ l, x.1 ≠ b) (o : Nat) (vs : List Value) : Mem w0 (W.setCells b o vs) r l := by
  refine ⟨below_setCells h0 vs o h.below, fun x hx => ⟨(h.old x hx).1, World.rangeAt_setCells_apart (h.old x hx).2 _ _ _ (.inl ?_)⟩, fun x hx => ?_, h.apart⟩
  · have := (h.old x hx).1; omega
  · obtain ⟨g1, g2, g3, g4⟩ := h.new x hx
    rw [size_setCells]
    exact ⟨g1, g2, World.rangeAt_setCells_apart g3 _ _ _ (.inl (hl x hx)), World.there_setCells g4 _ _ _⟩
theorem wp_store_box (HM : Mem w0 W r l) {n : Nat} {p : Value} (hB : Box w0 W l n p) {t : TypeId} {x y : Operand} (ho : o.op = .store t x y) (hx : a.eval x = p) {v : Value} (hy : a.eval y = v)
    (hv : v.cells.size = n) (hi : (P.info? t).map (·.size) = some n) (h1 : v.cells.toList.all (·.oneCell') = true)
    (hK : ∀ W', Mem w0 W' r l → Full w0 W' l n p v → (∀ m q, Box w0 W l m q → Box w0 W' l m q) → (∀ m q z, Full w0 W l m q z → q ≠ p → Full w0 W' l m q z) → K (a.put o.dst undef) W') : Oper.wp P o a W K Q := by
  obtain ⟨g, rfl, hg1, hg2, hg3, ht⟩ := hB
  have hlen : v.cells.toList.length = n := by simpa using hv
  have hrun := run_store_any (P := P) (t := t) (off := 0) (v := v) (W := W) (b := g) (vs := v.cells.toList) (by rw [hlen]; exact ht) rfl (by rw [hlen]; exact hi) h1
  unfold Oper.wp execOp
  simp only [ho, hx, hy, Sem.run_bind, hrun, Result.andThen_ok, Sem.run_pure]
  refine hK _ (HM.away hg1 hg3 _ _) ⟨g, rfl, hg1, by rw [size_setCells]; exact hg2, hg3, World.there_setCells ht _ _ _, hv, ?_⟩ ?_ ?_
  · exact World.rangeAt_setCells_same W g 0 _ (by rw [hlen]; exact ht)
  · rintro m q ⟨g', rfl, h2, h3, h4, h5⟩
    exact ⟨g', rfl, h2, by rw [size_setCells]; exact h3, h4, World.there_setCells h5 _ _ _⟩
  · rintro m q z ⟨g', rfl, h2, h3, h4, h5, h6, h7⟩ hne
    refine ⟨g', rfl, h2, by rw [size_setCells]; exact h3, h4, World.there_setCells h5 _ _ _, h6, World.rangeAt_setCells_apart h7 _ _ _ (.inl ?_)⟩
    intro e; subst e; exact hne rfl
/-- behind the region: the block is one of those that are known -/
theorem Mem.add (HM : Mem w0 W r l) {n : Nat} {p v : Value} (h : Full w0 W l n p v) : ∃ g, p = .pointer (some ⟨g, 0, none⟩) ∧ Mem w0 W r ((g, v.cells.toList) :: l) := by
  obtain ⟨g, rfl, hg1, hg2, hg3, ht, hn, hr⟩ := h
  refine ⟨g, rfl, HM.below, HM.old, fun x hx => ?_, ?_⟩
  · rcases List.mem_cons.1 hx with rfl | hx
    · exact ⟨hg1, hg2, hr, by simpa [hn] using ht⟩
    · exact HM.new x hx
  · simp only [List.map_cons, List.nodup_cons]
    refine ⟨fun hm => ?_, HM.apart⟩
    obtain ⟨x, hx, he⟩ := List.mem_map.1 hm
    exact hg3 x hx he
/-- of two: the second one is apart from the first one, too -/
theorem Full.past {n m : Nat} {p v q u : Value} {g : Nat} {cs : List Value} (k : Full w0 W l m q u) (hp : p = .pointer (some ⟨g, 0, none⟩)) (hne : p ≠ q) : Full w0 W ((g, cs) :: l) m q u := by
  obtain ⟨f, rfl, h1, h2, h3, h4, h5, h6⟩ := k
  refine ⟨f, rfl, h1, h2, fun x hx => ?_, h4, h5, h6⟩
  rcases List.mem_cons.1 hx with rfl | hx
  · intro e; simp only [] at e; subst e; exact hne hp
  · exact h3 x hx
/-- a block that a region writes is taken out -/
theorem Mem.take (HM : Mem w0 W r l) (k : Nat) {b : Nat} {cs : List Value} (hk : l[k]? = some (b, cs)) : Mem w0 W r (l.eraseIdx k) ∧ Box w0 W (l.eraseIdx k) cs.length (.pointer (some ⟨b, 0, none⟩)) := by
  have hm := HM.new _ (List.mem_of_getElem? hk)
  have hnd : ((l.eraseIdx k).map (·.1)).Nodup := HM.apart.sublist ((List.eraseIdx_sublist l k).map _)
  refine ⟨⟨HM.below, HM.old, fun x hx => HM.new x (List.mem_of_mem_eraseIdx hx), hnd⟩, b, rfl, hm.1, hm.2.1, fun x hx he => ?_, hm.2.2.2⟩
  obtain ⟨j, hj, hjx⟩ := List.mem_eraseIdx_iff_getElem?.1 hx
  have q1 : (l.map (·.1))[j]? = some b := by rw [List.getElem?_map, hjx]; simp [he]
  have q2 : (l.map (·.1))[k]? = some b := by rw [List.getElem?_map, hk]; rfl
  have hlt : j < (l.map (·.1)).length := (List.getElem?_eq_some_iff.1 q1).1
  exact hj ((List.getElem?_inj hlt HM.apart).1 (q1.trans q2.symm))
end
end Go.Mem

namespace Go.Mem
open Go Go.RowKit
set_option linter.unusedVariables false
set_option linter.unusedSimpArgs false
/-! what a function hands back -/
def fetch (tmps : Array Value) : ResultVar → Sem Value
  | .tmp t => pure (tmps.getD t undef)
  | .cell a t => do loadVar t (← asAddr (tmps.getD a undef))
theorem results_eq (fn : Func) (tmps : Array Value) : results fn tmps = (do let vs ← fn.results.mapM (fetch tmps); pure (if h : vs.size = 1 then vs[0] else .tuple vs)) := by
  unfold results
  congr 1
section
variable {P : Program} {fn : Func} {tmps : Array Value} {W : World} {w0 : World} {r l : Blocks}
theorem results1 {r0 : ResultVar} {v0 : Value} (hr : fn.results = #[r0]) (h0 : (fetch tmps r0).run P W = .ok v0 W) : (results fn tmps).run P W = .ok v0 W := by
  rw [results_eq, hr]; simp [h0, Sem.run_bind]
theorem results2 {r0 r1 : ResultVar} {v0 v1 : Value} (hr : fn.results = #[r0, r1]) (h0 : (fetch tmps r0).run P W = .ok v0 W) (h1 : (fetch tmps r1).run P W = .ok v1 W) : (results fn tmps).run P W = .ok (.tuple #[v0, v1]) W := by
  rw [results_eq, hr]; simp [h0, h1, Sem.run_bind]
theorem results3 {r0 r1 r2 : ResultVar} {v0 v1 v2 : Value} (hr : fn.results = #[r0, r1, r2]) (h0 : (fetch tmps r0).run P W = .ok v0 W) (h1 : (fetch tmps r1).run P W = .ok v1 W) (h2 : (fetch tmps r2).run P W = .ok v2 W) : (results fn tmps).run P W = .ok (.tuple #[v0, v1, v2]) W := by
  rw [results_eq, hr]; simp [h0, h1, h2, Sem.run_bind]
theorem results4 {r0 r1 r2 r3 : ResultVar} {v0 v1 v2 v3 : Value} (hr : fn.results = #[r0, r1, r2, r3]) (h0 : (fetch tmps r0).run P W = .ok v0 W) (h1 : (fetch tmps r1).run P W = .ok v1 W) (h2 : (fetch tmps r2).run P W = .ok v2 W) (h3 : (fetch tmps r3).run P W = .ok v3 W) : (results fn tmps).run P W = .ok (.tuple #[v0, v1, v2, v3]) W := by
  rw [results_eq, hr]; simp [h0, h1, h2, h3, Sem.run_bind]
theorem fetch_tmp {t : Nat} {v : Value} (h : tmps.getD t undef = v) : (fetch tmps (.tmp t)).run P W = .ok v W := by rw [← h]; rfl
theorem fetch_row (HM : Mem w0 W r l) {a : Nat} {t : TypeId} (n : Nat) {b off : Nat} {cs vs : List Value} (h : tmps.getD a undef = .pointer (some ⟨b, off, none⟩)) (ht : row P t n = true) (hk : (b, cs) ∈ l ∨ (b, cs) ∈ r) (hs : sub cs off n = vs) (hn : vs.length = n) :
    (fetch tmps (.cell a t)).run P W = .ok (.agg vs.toArray) W := by
  have := run_load_row (P := P) (HM.rangeAt hk) ht hs hn
  show Sem.run P (do loadVar t (← asAddr (tmps.getD a undef))) W = _
  rw [h]
  simpa [Instr.loadAt, Instr.sureAddr, asAddr, Sem.run_bind] using this
end
end Go.Mem
