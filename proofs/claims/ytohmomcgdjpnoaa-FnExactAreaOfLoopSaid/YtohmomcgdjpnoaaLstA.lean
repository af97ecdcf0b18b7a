/- Contracts: lists of pairs are copied. -/
import Derived.Test.YtohmomcgdjpnoaaPtC
import Derived.Test.YtohmomcgdjpnoaaMem
import Derived.WalkMore
import Derived.LoopN
import Derived.Deep.LoopGhost
import Derived.Laws.MakeOwn
namespace Go.Proofs.Ytohmomcgdjpnoaa
open Go.RowKit Go.Flo Go.Mem
set_option linter.unusedSimpArgs false
set_option linter.unusedVariables false
set_option maxHeartbeats 1000000 in
theorem toF2 (x0 x1 : Nat) (w : World) : Calls Try.prog 30 #[.agg #[.float .f32 x0, .float .f32 x1]] w (Gives (fun v => v = .agg #[.float .f32 x0, .float .f32 x1]) w) := by
  go_enter Try.func30, Try.ntmps30
  go_wp2_with fail
  refine wp_loop_rounds 3 ?_
  repeat any_goals (rw [rounds_succ]; go_wp2_with fail)
  simp [bodyPost, results, Try.results30, go_sem]
  exact ⟨_, rfl, rfl, below_alloc (below_alloc (below_alloc (Below.refl _ _)))⟩

/-- pairs of numbers, one behind the other -/
def flat : List (Nat × Nat) → List Value
  | [] => []
  | p :: l => .float .f32 p.1 :: .float .f32 p.2 :: flat l
theorem flat_length : ∀ (l : List (Nat × Nat)), (flat l).length = 2 * l.length
  | [] => rfl
  | p :: l => by simp [flat, flat_length l]; omega
theorem flat_get : ∀ (l : List (Nat × Nat)) (j : Nat) (p : Nat × Nat), l[j]? = some p → (flat l)[2 * j]? = some (.float .f32 p.1) ∧ (flat l)[2 * j + 1]? = some (.float .f32 p.2)
  | q :: l, 0, p, h => by
    simp at h; subst h; exact ⟨rfl, rfl⟩
  | q :: l, j + 1, p, h => by
    have := flat_get l j p (by simpa using h)
    rw [show 2 * (j + 1) = 2 * j + 1 + 1 by omega]
    simpa [flat] using this
/-- a slice of pairs -/
def Pls (w : World) (v : Value) (ps : List (Nat × Nat)) : Prop := ∃ a c, v = .slice a ps.length c ∧ ∀ j p, ps[j]? = some p → ∃ b, a = some b ∧ b.block < w.heap.size ∧ w.cell? (b.add (j * 2)) = some (.float .f32 p.1) ∧ w.cell? ((b.add (j * 2)).add 1) = some (.float .f32 p.2)
theorem add_block (b : Addr) (n : Nat) : (b.add n).block = b.block := by unfold Addr.add; split <;> rfl
theorem Pls.below {w w' : World} {v : Value} {ps : List (Nat × Nat)} (h : Pls w v ps) (hb : Below w.heap.size w w') : Pls w' v ps := by
  obtain ⟨a, c, h1, h2⟩ := h
  refine ⟨a, c, h1, fun j p hp => ?_⟩
  obtain ⟨b, e1, e2, e3, e4⟩ := h2 j p hp
  exact ⟨b, e1, Nat.lt_of_lt_of_le e2 hb.size, by rw [hb.cell (by rw [add_block]; exact e2)]; exact e3, by rw [hb.cell (by rw [add_block, add_block]; exact e2)]; exact e4⟩
theorem load_pair {P : Program} {W : World} {t : TypeId} (ht : row P t 2 = true) {p : Addr} {v0 v1 : Value} (h0 : W.cell? p = some v0) (h1 : W.cell? (p.add 1) = some v1) :
    (Instr.loadAt t (.pointer (some p))).run P W = .ok (.agg #[v0, v1]) W := by
  obtain ⟨d, hu, hd, hi⟩ := row_spec ht
  have hagg : (isAgg t).run P W = .ok true W := by
    unfold isAgg
    rw [Sem.run_bind, run_underlying hu W]
    cases d <;> simp_all [TypeDesc.isRow]
  have hsz : (sizeOf t).run P W = .ok 2 W := by
    cases hq : P.info? t with
    | none => simp [hq] at hi
    | some i => simp [hq] at hi; simp [sizeOf, typeInfo, hq, Sem.run_bind, hi]
  have hl := run_loadCells_list (P := P) (w := W) p [v0, v1] (fun j v hv => by
    match j, hv with
    | 0, hv => simp at hv; subst hv; exact h0
    | 1, hv => simp at hv; subst hv; exact h1)
  have hl' : (loadCells p 2).run P W = .ok #[v0, v1] W := hl
  simp [Instr.loadAt, Instr.sureAddr, loadVar, Sem.run_bind, hagg, hsz, hl']
theorem index_slice {P : Program} {W : World} {t e : TypeId} {n : Nat} (ht : P.underlying t = some (.slice e)) (hs : (P.info? e).map (·.size) = some n) {a : Addr} {len c : Nat} {k : IntKind} {i : Int} (h0 : 0 ≤ i) (hi : i < len) :
    (Instr.indexAt t (.slice (some a) len c) (.int k i)).run P W = .ok (.pointer (some (a.add (i.toNat * n)))) W := by
  have hsz : (sizeOf e).run P W = .ok n W := by
    cases hq : P.info? e with
    | none => simp [hq] at hs
    | some j => simp [hq] at hs; simp [sizeOf, typeInfo, hq, Sem.run_bind, hs]
  unfold Instr.indexAt
  simp [asIntOf, Sem.run_bind, run_underlying ht, Instr.sureAddr, h0, hi, hsz]
section
variable {P : Program} {ops : Array Oper} {rest : List Oper} {o : Oper} {a : Act} {W : World} {Q : Exit → Act → World → Prop}
theorem wpList_idx (hgd : o.guard = none) {t : TypeId} {X Y : Operand} (ho : o.op = .indexAddr t X Y) {e : TypeId} {n : Nat} (ht : P.underlying t = some (.slice e)) (hs : (P.info? e).map (·.size) = some n) {b : Addr} {len c : Nat} (hX : a.eval X = .slice (some b) len c) {k : IntKind} {i : Int} (hY : a.eval Y = .int k i) (h0 : 0 ≤ i) (hi : i < len)
    (hK : wpList P ops Q rest (a.put o.dst (.pointer (some (b.add (i.toNat * n))))) W) : wpList P ops Q (o :: rest) a W := by
  refine wpList_plain hgd fun K hK' => wp_val ?_ (hK' _ _ hK)
  unfold execOp
  simp only [ho, hX, hY, Sem.run_bind, index_slice ht hs h0 hi, Result.andThen_ok]; rfl
theorem wpList_pair (hgd : o.guard = none) {t : TypeId} {X : Operand} (ho : o.op = .load t X) (ht : row P t 2 = true) {p : Addr} (hX : a.eval X = .pointer (some p)) {v0 v1 : Value} (h0 : W.cell? p = some v0) (h1 : W.cell? (p.add 1) = some v1)
    (hK : wpList P ops Q rest (a.put o.dst (.agg #[v0, v1])) W) : wpList P ops Q (o :: rest) a W := by
  refine wpList_plain hgd fun K hK' => wp_val ?_ (hK' _ _ hK)
  unfold execOp
  simp only [ho, hX, Sem.run_bind, load_pair ht h0 h1, Result.andThen_ok]; rfl
end

theorem splice_take : ∀ (cs : List Value) (o : Nat) (a b : Value), o + 2 ≤ cs.length → (splice cs o [a, b]).take (o + 2) = cs.take o ++ [a, b]
  | [], o, a, b, h => by simp at h
  | [_], o, a, b, h => by simp at h
  | x :: y :: cs, 0, a, b, _ => by cases cs <;> simp [splice]
  | x :: cs, o + 1, a, b, h => by
    have := splice_take cs o a b (by simp at h; omega)
    simp [splice, show o + 1 + 2 = o + 2 + 1 by omega, this]
theorem flat_take (ps : List (Nat × Nat)) (i : Nat) (p : Nat × Nat) (h : ps[i]? = some p) : flat (ps.take (i + 1)) = flat (ps.take i) ++ [.float .f32 p.1, .float .f32 p.2] := by
  induction ps generalizing i with
  | nil => simp at h
  | cons q ps ih =>
    cases i with
    | zero => simp at h; subst h; rfl
    | succ i => simp [flat, ih i (by simpa using h)]
theorem makeN (n : Nat) (hn : n ≤ 1048576) (w : World) : (Instr.makeSlice 55 (.int .i64 n) (.int .i64 n)).run Try.prog w = .ok (.slice (some ⟨w.heap.size, 0, none⟩) n n) (w.alloc (.cells (madeCells #[.float .f32 0, .float .f32 0] (n * 2)) 47)) := by
  have hs : (Try.prog.info? 47).isSome = true := by kernel_rfl
  have hi : Try.prog.info? 47 = some ((Try.prog.info? 47).get hs) := (Option.some_get hs).symm
  have hz : ((Try.prog.info? 47).get hs).zero = some (.agg #[.float .f32 0, .float .f32 0]) := by kernel_rfl
  have hb : ((Try.prog.info? 47).get hs).bytes = 8 := by kernel_rfl
  have hsz : ((Try.prog.info? 47).get hs).size = 2 := by kernel_rfl
  have hr := run_make w 55 47 _ _ (by kernel_rfl) hi hz .i64 .i64 n n (by omega) (by omega) (by rw [hb]; omega) (by omega)
  rw [hsz] at hr
  exact hr
set_option maxRecDepth 20000 in
set_option maxHeartbeats 4000000 in
theorem toF2S (v : Value) (ps : List (Nat × Nat)) (w : World) (hP : Pls w v ps) (hn : ps.length ≤ 1048576) :
    Calls Try.prog 34 #[v] w (fun e w' => e = .returned (.slice (some ⟨w.heap.size, 0, none⟩) ps.length ps.length) ∧ ∃ cs, Mem w w' [] [(w.heap.size, cs)] ∧ cs = flat ps) := by
  have hP' := hP
  obtain ⟨a, c, rfl, _⟩ := hP
  obtain ⟨g, hg⟩ : ∃ g, g = w.heap.size := ⟨_, rfl⟩
  have hmk := makeN ps.length hn w
  rw [← hg] at hmk ⊢
  have G : Aside (g = w.heap.size ∧ ps.length ≤ 1048576) := ⟨hg, hn⟩
  have hM0 := (Mem.start w).alloc (madeCells #[.float .f32 0, .float .f32 0] (ps.length * 2)) 47
  rw [← hg] at hM0
  have M0 : Aside (Mem w (w.alloc (.cells (madeCells #[.float .f32 0, .float .f32 0] (ps.length * 2)) 47)) [] [(g, (madeCells #[.float .f32 0, .float .f32 0] (ps.length * 2)).toList)]) := hM0
  clear hM0 hg hn
  have h47 : Aside ((Try.prog.info? 47).map (·.size) = some 2) := (by kernel_rfl : (Try.prog.info? 47).map (·.size) = some 2)
  go_enter Try.func34, Try.ntmps34
  go_wp2_with fail
  go_loopg [4] ps.length (fun k s4 wr => ∃ (i : Nat) (cs : List Value), s4 = .int .i64 i ∧ i + k = ps.length ∧ cs.length = 2 * ps.length ∧ Mem w wr [] [(g, cs)] ∧ cs.take (2 * i) = flat (ps.take i))
  · exact ⟨0, _, rfl, by omega, by simp [size_madeCells]; omega, M0.out, rfl⟩
  · obtain ⟨i, cs, rfl, hik, hl, HM, htk⟩ := hrel
    have B : Aside (i + gk = ps.length ∧ cs.length = 2 * ps.length ∧ cs.take (2 * i) = flat (ps.take i)) := ⟨hik, hl, htk⟩
    have hMA : Aside (Mem w wr [] [(g, cs)]) := HM
    by_cases hi : i < ps.length
    · obtain ⟨p, hp⟩ : ∃ p, ps[i]? = some p := ⟨ps[i], List.getElem?_eq_getElem hi⟩
      obtain ⟨a', c', e0, hcells⟩ := hP'.below HM.below
      obtain ⟨b, rfl, hbl, hc0, hc1⟩ := hcells i p hp
      cases e0
      have hi' : (i : Int) < (ps.length : Int) := by omega
      have hcell : Aside (wr.cell? (b.add (i * 2)) = some (.float .f32 p.1) ∧ wr.cell? ((b.add (i * 2)).add 1) = some (.float .f32 p.2)) := ⟨hc0, hc1⟩
      have P0 : Aside (ps[i]? = some p) := hp
      clear hc0 hc1 hcells hbl hP' hp hik hl htk HM hmk
      go_wp2_with (first
        | (refine wpList_idx rfl rfl (by kernel_rfl) (by kernel_rfl) rfl rfl (Int.natCast_nonneg _) hi' ?_; simp only [Int.toNat_natCast, Addr.add_mid])
        | (refine wpList_pair rfl rfl (by kernel_rfl) rfl hcell.out.1 hcell.out.2 ?_)
        | (go_at_call 30; refine (toF2 _ _ _).mono ?_; rintro e w' ⟨_, rfl, rfl, hb⟩; have HM2 := hMA.out.call hb; have hM2 : Aside (Mem w w' [] [(g, cs)]) := HM2; clear HM2 hb)
        | (refine wpList_store (b := g) (off := i * 2) (cs := cs) (vs := [.float .f32 p.1, .float .f32 p.2]) hM2.out 0 rfl rfl rfl rfl rfl rfl h47.out rfl (Nat.ble_eq_true_of_le (by have := B.out.2.1; simp only [List.length_cons, List.length_nil]; omega)) ?_; intro w3 hM3; have hM4 : Aside (Mem w w3 [] [(g, splice cs (i * 2) [.float .f32 p.1, .float .f32 p.2])]) := hM3; clear hM3))
      obtain ⟨hik, hl, htk⟩ := B.out
      go_roundg (gk - 1)
      · refine ⟨i + 1, _, ?_, by omega, ?_, hM4.out, ?_⟩
        · congr 1
          have := G.out.2
          unfold wrap64; omega
        · rw [splice_length]; exact hl
        · rw [show 2 * (i + 1) = i * 2 + 2 by omega, splice_take _ _ _ _ (by omega), show i * 2 = 2 * i by omega, htk, flat_take ps i p P0.out]
      · omega
    · have hi' : ¬ ((i : Int) < (ps.length : Int)) := by omega
      obtain ⟨hik, hl, htk⟩ := B.out
      have hie : i = ps.length := by omega
      clear hmk M0
      go_wp2_with fail
      simp [bodyPost, results, Try.results34, go_sem]
      have hcs : cs = flat ps := by
        rw [hie, List.take_of_length_le (by omega), List.take_of_length_le (by omega)] at htk
        exact htk
      rw [← hcs]; exact hMA.out
end Go.Proofs.Ytohmomcgdjpnoaa
