/- Lists of rows of cells, whatever a row holds: slices, copies, arguments. -/
import Derived.Test.YteckjpdfecgljaaPtC
import Derived.Test.YteckjpdfecgljaaMem
import Derived.Test.YteckjpdfecgljaaOpen
import Derived.WalkMore
import Derived.LoopN
import Derived.Deep.LoopGhost
import Derived.Deep.RegionHeld3
import Derived.Laws.MakeOwn
namespace Go.Proofs.Yteckjpdfecgljaa
open Go.ChangeShapes Go.WideShapes Go.ChangeAt Go.RowKit Go.Flo Go.Mem
set_option linter.unusedSimpArgs false
set_option linter.unusedVariables false
/-- a slice of rows of n cells -/
def Rls (n : Nat) (w : World) (v : Value) (rs : List (List Value)) : Prop := ∃ a c, v = .slice a rs.length c ∧ ∀ j r, rs[j]? = some r → ∃ b, a = some b ∧ b.block < w.heap.size ∧ ∀ k x, r[k]? = some x → w.cell? ((b.add (j * n)).add k) = some x
theorem add_block' (b : Addr) (n : Nat) : (b.add n).block = b.block := by unfold Addr.add; split <;> rfl
theorem Rls.below {n : Nat} {w w' : World} {v : Value} {rs : List (List Value)} (h : Rls n w v rs) (hb : Below w.heap.size w w') : Rls n w' v rs := by
  obtain ⟨a, c, h1, h2⟩ := h
  refine ⟨a, c, h1, fun j r hr => ?_⟩
  obtain ⟨b, e1, e2, e3⟩ := h2 j r hr
  exact ⟨b, e1, Nat.lt_of_lt_of_le e2 hb.size, fun k x hx => by rw [hb.cell (by rw [add_block', add_block']; exact e2)]; exact e3 k x hx⟩
/-- the row at a place -/
theorem Rls.at {n : Nat} {w : World} {v : Value} {rs : List (List Value)} (h : Rls n w v rs) {i : Nat} {r : List Value} (hi : rs[i]? = some r) : ∃ b c, v = .slice (some b) rs.length c ∧ (b.add (i * n)).block < w.heap.size ∧ ∀ k x, r[k]? = some x → w.cell? ((b.add (i * n)).add k) = some x := by
  obtain ⟨a, c, h1, h2⟩ := h
  obtain ⟨b, rfl, e2, e3⟩ := h2 i r hi
  exact ⟨b, c, h1, by rw [add_block']; exact e2, e3⟩
theorem cells_later {wr W : World} {q : Addr} {r : List Value} (hB : Below wr.heap.size wr W) (hq : q.block < wr.heap.size) (h : ∀ k x, r[k]? = some x → wr.cell? (q.add k) = some x) : ∀ k x, r[k]? = some x → W.cell? (q.add k) = some x := fun k x hx => by
  rw [hB.cell (by rw [add_block']; exact hq)]; exact h k x hx
theorem flatten_len {n : Nat} : ∀ {rs : List (List Value)}, (∀ r ∈ rs, r.length = n) → rs.flatten.length = rs.length * n
  | [], _ => by simp
  | r :: rs, h => by
    rw [List.flatten_cons, List.length_append, h r (by simp), flatten_len (fun x hx => h x (by simp [hx])), List.length_cons, Nat.add_mul]; omega
theorem flatten_get {n : Nat} : ∀ {rs : List (List Value)} (j : Nat) {r : List Value}, (∀ r ∈ rs, r.length = n) → rs[j]? = some r → ∀ k x, r[k]? = some x → rs.flatten[j * n + k]? = some x
  | [], _, _, _, h, _, _, _ => by simp at h
  | q :: rs, 0, r, hl, h, k, x, hx => by
    simp at h; subst h
    rw [Nat.zero_mul, Nat.zero_add, List.flatten_cons, List.getElem?_append_left (List.getElem?_eq_some_iff.1 hx).1]; exact hx
  | q :: rs, j + 1, r, hl, h, k, x, hx => by
    have hq := hl q (by simp)
    have := flatten_get j (fun y (hy : y ∈ rs) => hl y (List.mem_cons_of_mem _ hy)) (by simpa using h) k x hx
    rw [List.flatten_cons, List.getElem?_append_right (by rw [hq, Nat.add_mul]; omega), hq, show (j + 1) * n + k - n = j * n + k by rw [Nat.add_mul]; omega]; exact this
theorem splice_takeR : ∀ (cs vs : List Value) (o : Nat), o + vs.length ≤ cs.length → (splice cs o vs).take (o + vs.length) = cs.take o ++ vs := by
  intro cs vs o h
  apply List.ext_getElem?
  intro j
  by_cases hj : j < o + vs.length
  · rw [List.getElem?_take_of_lt hj, splice_get cs o vs j h]
    by_cases ho : o ≤ j
    · rw [if_pos ⟨ho, hj⟩, List.getElem?_append_right (by rw [List.length_take]; omega), List.length_take, Nat.min_eq_left (by omega)]
    · rw [if_neg (by omega), List.getElem?_append_left (by rw [List.length_take]; omega), List.getElem?_take_of_lt (by omega)]
  · rw [List.getElem?_eq_none (by rw [List.length_take, splice_length]; omega), List.getElem?_eq_none (by rw [List.length_append, List.length_take]; omega)]
theorem flatten_take {rs : List (List Value)} {i : Nat} {r : List Value} (h : rs[i]? = some r) : (rs.take (i + 1)).flatten = (rs.take i).flatten ++ r := by
  have hi := (List.getElem?_eq_some_iff.1 h).1
  rw [List.take_succ_eq_append_getElem hi, (List.getElem?_eq_some_iff.1 h).2, List.flatten_append]; simp
theorem rls_flat {n : Nat} {w0 W : World} {r l : Blocks} {g : Nat} {rs : List (List Value)} (hn : ∀ r ∈ rs, r.length = n) (HM : Mem w0 W r l) (hk : (g, rs.flatten) ∈ l) : Rls n W (.slice (some ⟨g, 0, none⟩) rs.length rs.length) rs := by
  obtain ⟨hg, hl, hr, _⟩ := HM.new (g, rs.flatten) hk
  refine ⟨some ⟨g, 0, none⟩, rs.length, rfl, fun j q hq => ⟨⟨g, 0, none⟩, rfl, hl, fun k x hx => ?_⟩⟩
  rw [Addr.add_mid, Addr.add_mid, show 0 + j * n + k = 0 + (j * n + k) by omega]
  exact hr _ _ (flatten_get j hn hq k x hx)
/-- an operation that reads a row -/
theorem load_rowR {P : Program} {W : World} {t : TypeId} {n : Nat} (ht : row P t n = true) {p : Addr} {vs : List Value} (hn : vs.length = n) (h : ∀ k x, vs[k]? = some x → W.cell? (p.add k) = some x) :
    (Instr.loadAt t (.pointer (some p))).run P W = .ok (.agg vs.toArray) W := by
  obtain ⟨d, hu, hd, hi⟩ := row_spec ht
  have hagg : (isAgg t).run P W = .ok true W := by
    unfold isAgg
    rw [Sem.run_bind, run_underlying hu W]
    cases d <;> simp_all [TypeDesc.isRow]
  have hsz : (sizeOf t).run P W = .ok n W := by
    cases hq : P.info? t with
    | none => simp [hq] at hi
    | some i => simp [hq] at hi; simp [sizeOf, typeInfo, hq, Sem.run_bind, hi]
  have hl := run_loadCells_list (P := P) (w := W) p vs h
  have hl' : (loadCells p n).run P W = .ok vs.toArray W := hn ▸ hl
  simp [Instr.loadAt, Instr.sureAddr, loadVar, Sem.run_bind, hagg, hsz, hl']
theorem index_rowR {P : Program} {W : World} {t e : TypeId} {n : Nat} (ht : P.underlying t = some (.slice e)) (hs : (P.info? e).map (·.size) = some n) {a : Addr} {len c : Nat} {k : IntKind} {i : Int} (h0 : 0 ≤ i) (hi : i < len) :
    (Instr.indexAt t (.slice (some a) len c) (.int k i)).run P W = .ok (.pointer (some (a.add (i.toNat * n)))) W := by
  have hsz : (sizeOf e).run P W = .ok n W := by
    cases hq : P.info? e with
    | none => simp [hq] at hs
    | some j => simp [hq] at hs; simp [sizeOf, typeInfo, hq, Sem.run_bind, hs]
  unfold Instr.indexAt
  simp [asIntOf, Sem.run_bind, run_underlying ht, Instr.sureAddr, h0, hi, hsz]
section
variable {P : Program} {ops : Array Oper} {rest : List Oper} {o : Oper} {a : Act} {W : World} {Q : Exit → Act → World → Prop}
theorem wpList_idxR (hgd : o.guard = none) {t : TypeId} {X Y : Operand} (ho : o.op = .indexAddr t X Y) {e : TypeId} {n : Nat} (ht : P.underlying t = some (.slice e)) (hs : (P.info? e).map (·.size) = some n) {b : Addr} {len c : Nat} (hX : a.eval X = .slice (some b) len c) {k : IntKind} {i : Int} (hY : a.eval Y = .int k i) (h0 : 0 ≤ i) (hi : i < len)
    (hK : wpList P ops Q rest (a.put o.dst (.pointer (some (b.add (i.toNat * n))))) W) : wpList P ops Q (o :: rest) a W := by
  refine wpList_plain hgd fun K hK' => wp_val ?_ (hK' _ _ hK)
  unfold execOp
  simp only [ho, hX, hY, Sem.run_bind, index_rowR ht hs h0 hi, Result.andThen_ok]; rfl
theorem wpList_rowR (hgd : o.guard = none) {t : TypeId} {X : Operand} (ho : o.op = .load t X) {n : Nat} (ht : row P t n = true) {p : Addr} (hX : a.eval X = .pointer (some p)) {vs : List Value} (hn : vs.length = n) (h : ∀ k x, vs[k]? = some x → W.cell? (p.add k) = some x)
    (hK : wpList P ops Q rest (a.put o.dst (.agg vs.toArray)) W) : wpList P ops Q (o :: rest) a W := by
  refine wpList_plain hgd fun K hK' => wp_val ?_ (hK' _ _ hK)
  unfold execOp
  simp only [ho, hX, Sem.run_bind, load_rowR ht hn h, Result.andThen_ok]; rfl
end
/-- made anew: a slice of n rows -/
theorem makeR {P : Program} {s e : TypeId} {z : Value} {m bytes : Nat} (hu : P.underlying s = some (.slice e)) (hi : (P.info? e).isSome = true) (hz : ((P.info? e).get hi).zero = some z) (hb : ((P.info? e).get hi).bytes = bytes) (hsz : ((P.info? e).get hi).size = m) (hl : bytes ≤ 4096) (n : Nat) (hn : n ≤ 1048576) (w : World) :
    (Instr.makeSlice s (.int .i64 n) (.int .i64 n)).run P w = .ok (.slice (some ⟨w.heap.size, 0, none⟩) n n) (w.alloc (.cells (madeCells z.cells (n * m)) e)) := by
  have hi' : P.info? e = some ((P.info? e).get hi) := (Option.some_get hi).symm
  have hm : n * bytes ≤ 1048576 * 4096 := Nat.mul_le_mul hn hl
  have hm' : bytes * n ≤ 1048576 * 4096 := Nat.mul_comm n bytes ▸ hm
  have hr := run_make w s e _ _ hu hi' hz .i64 .i64 n n (by omega) (by omega) (by rw [hb]; omega) (by omega)
  rw [hsz] at hr
  exact hr
section
variable {H : Type} {enc : TypeId × Value → H} {P : Program} {w : World} {base : Nat} {spare : Nat → Bool} {held : Bool}
/-- an argument that is a slice, read: it is a slice of rows; what a row's reading gives is kept -/
theorem open_rows {r : Reach} {b0 : Nat} {t e : TypeId} {v : Value} {d : DataW H} {ms : List MemPlace} {n : Nat} (R : List Value → Prop) (ht : P.underlying t = some (.slice e)) (hce : P.cellsOf e = n) (hn : 0 < n)
    (hval : Value.okWide P w r b0 t v) (hd : DataW.Trod enc P w base spare held t v d ms)
    (hR : ∀ cs y m, cs.length = n → DataW.trod enc P w base spare held m e cs = some y → R cs) : ∃ rs : List (List Value), Rls n w v rs ∧ (∀ r ∈ rs, r.length = n ∧ R r) ∧ rs.length ≤ maxLen := by
  obtain ⟨fuel, h⟩ := hd
  simp only [Value.okWide, ht] at hval
  obtain ⟨a, len, cap, rfl⟩ : ∃ a len cap, v = .slice a len cap := by
    clear h
    cases v <;> simp_all [Cell.okWide, Cell.ok]
  rcases DataW.trod_slice ht h with ⟨h1, _⟩ | ⟨a', len', cap', elems, rest, m, _, h1, _, hb, hl, hm, hlen, hel, _, _⟩
  · have h1' : Value.slice a len cap = .slice none 0 0 := by simpa [Value.cells] using h1
    cases h1'
    exact ⟨[], ⟨none, 0, rfl, fun j p hp => (by cases hp)⟩, fun r hr => (by cases hr), by decide⟩
  · have h1' : Value.slice a len cap = .slice (some a') len' cap' := by simpa [Value.cells] using h1
    cases h1'
    have each : ∀ i, i < len → ∃ q : List Value, q.length = n ∧ R q ∧ ∀ k x, q[k]? = some x → w.cell? ((a'.add (i * n)).add k) = some x := by
      intro i hi
      have h2 := hel i hi
      rw [List.getElem?_eq_getElem (by omega), hce, Option.bind_eq_some_iff] at h2
      obtain ⟨cs, h3, h4⟩ := h2
      obtain ⟨_, h5, h6⟩ := World.cells?_some h3
      exact ⟨cs, h5, hR cs _ _ h5 h4, fun k x hx => by rw [h6 k (by rw [← h5]; exact (List.getElem?_eq_some_iff.1 hx).1)]; exact hx⟩
    obtain ⟨F, hF⟩ : ∃ F : Nat → List Value, ∀ i, i < len → (F i).length = n ∧ R (F i) ∧ ∀ k x, (F i)[k]? = some x → w.cell? ((a'.add (i * n)).add k) = some x :=
      ⟨fun i => if hi : i < len then (each i hi).choose else [], fun i hi => by simp only [dif_pos hi]; exact (each i hi).choose_spec⟩
    refine ⟨(List.range len).map F, ⟨some a', cap, by simp, fun j p hp => ?_⟩, fun r hr => ?_, by simp; omega⟩
    · rw [List.getElem?_map, Option.map_eq_some_iff] at hp
      obtain ⟨j', hj, rfl⟩ := hp
      obtain ⟨hj2, hj3⟩ := List.getElem?_eq_some_iff.1 hj
      simp at hj2 hj3
      subst hj3
      obtain ⟨f1, f2, f3⟩ := hF j hj2
      refine ⟨a', rfl, ?_, f3⟩
      have hx : ∃ x, (F j)[0]? = some x := ⟨(F j)[0], List.getElem?_eq_getElem (by omega)⟩
      obtain ⟨x, hx⟩ := hx
      have := World.block_lt_of_cell? w _ (f3 0 x hx)
      rw [add_block', add_block'] at this; exact this
    · obtain ⟨i, hi, rfl⟩ := List.mem_map.1 hr
      have := hF i (by simpa using hi)
      exact ⟨this.1, this.2.1⟩
end
end Go.Proofs.Yteckjpdfecgljaa
