/- Contracts: the laws' own functions over lists of strokes, marks, whole numbers, truths: copied, measured, compared. -/
import Derived.Test.YtbhbdpcefgledaaMrkO
import Derived.Test.YtbhbdpcefgledaaLstG
import Derived.Test.YtbhbdpcefgledaaEqS
import Derived.Test.YtbhbdpcefgledaaMrkB
namespace Go.Proofs.Ytbhbdpcefgledaa
--## d
open Go.ChangeShapes Go.WideShapes Go.ChangeAt Go.RowKit Go.Flo Go.Mem
set_option linter.unusedSimpArgs false
set_option linter.unusedVariables false
set_option maxRecDepth 20000
--## d
def rK (zs : List (Int × Int × Int × Int × Int)) : List (List Value) := zs.map fun z => [.int .i16 z.1, .int .i16 z.2.1, .int .i16 z.2.2.1, .int .i16 z.2.2.2.1, .int .i8 z.2.2.2.2]
--## d
theorem rK_len {zs : List (Int × Int × Int × Int × Int)} : (rK zs).length = zs.length := by simp [rK]
--## d
theorem rK_row {zs : List (Int × Int × Int × Int × Int)} : ∀ r ∈ rK zs, r.length = 5 := by
  intro r hr
  simp only [rK, List.mem_map] at hr
  obtain ⟨t, _, rfl⟩ := hr
  rfl
--## d
theorem rK_get {zs : List (Int × Int × Int × Int × Int)} {i : Nat} {z : Int × Int × Int × Int × Int} (h : zs[i]? = some z) : (rK zs)[i]? = some [.int .i16 z.1, .int .i16 z.2.1, .int .i16 z.2.2.1, .int .i16 z.2.2.2.1, .int .i8 z.2.2.2.2] := by simp [rK, h]
--## d
theorem makeStrokeS (n : Nat) (hn : n ≤ 1048576) (w : World) : (Instr.makeSlice 43 (.int .i64 n) (.int .i64 n)).run Try.prog w = .ok (.slice (some ⟨w.heap.size, 0, none⟩) n n) (w.alloc (.cells (madeCells #[.int .i16 0, .int .i16 0, .int .i16 0, .int .i16 0, .int .i8 0] (n * 5)) 70)) := by
  have h := makeR (P := Try.prog) (s := 43) (e := 70) (z := .agg #[.int .i16 0, .int .i16 0, .int .i16 0, .int .i16 0, .int .i8 0]) (m := 5) (bytes := 10) (by kernel_rfl) (by kernel_rfl) (by kernel_rfl) (by kernel_rfl) (by kernel_rfl) (by omega) n hn w
  exact h
--## d
set_option maxRecDepth 20000 in
set_option maxHeartbeats 4000000 in
theorem toStrokeSA (v : Value) (zs : List (Int × Int × Int × Int × Int)) (w : World) (hP : Rls 5 w v (rK zs)) (hn : zs.length ≤ 1048576) :
    Calls Try.prog 15 #[v] w (fun e w' => e = .returned (.slice (some ⟨w.heap.size, 0, none⟩) zs.length zs.length) ∧ Mem w w' [] [(w.heap.size, (rK zs).flatten)]) := by
  have hP' := hP
  obtain ⟨a, c, rfl, _⟩ := hP
  obtain ⟨g, hg⟩ : ∃ g, g = w.heap.size := ⟨_, rfl⟩
  have hmk := makeStrokeS zs.length hn w
  rw [← hg] at hmk ⊢
  rw [rK_len] at *
  have G : Aside (g = w.heap.size ∧ zs.length ≤ 1048576) := ⟨hg, hn⟩
  have hM0 := (Mem.start w).alloc (madeCells #[.int .i16 0, .int .i16 0, .int .i16 0, .int .i16 0, .int .i8 0] (zs.length * 5)) 70
  rw [← hg] at hM0
  have M0 : Aside (Mem w (w.alloc (.cells (madeCells #[.int .i16 0, .int .i16 0, .int .i16 0, .int .i16 0, .int .i8 0] (zs.length * 5)) 70)) [] [(g, (madeCells #[.int .i16 0, .int .i16 0, .int .i16 0, .int .i16 0, .int .i8 0] (zs.length * 5)).toList)]) := hM0
  clear hM0 hg hn
  have h47 : Aside ((Try.prog.info? 70).map (·.size) = some 5) := (by kernel_rfl : (Try.prog.info? 70).map (·.size) = some 5)
  go_enter Try.func15, Try.ntmps15
  go_wp2_with fail
  go_loopg [4] zs.length (fun k s4 wr => ∃ (i : Nat) (cs : List Value), s4 = .int .i64 i ∧ i + k = zs.length ∧ cs.length = zs.length * 5 ∧ Mem w wr [] [(g, cs)] ∧ cs.take (i * 5) = ((rK zs).take i).flatten)
  · exact ⟨0, _, rfl, by omega, by simp [size_madeCells], M0.out, rfl⟩
  · obtain ⟨i, cs, rfl, hik, hl, HM, htk⟩ := hrel
    have B : Aside (i + gk = zs.length ∧ cs.length = zs.length * 5 ∧ cs.take (i * 5) = ((rK zs).take i).flatten) := ⟨hik, hl, htk⟩
    have hMA : Aside (Mem w wr [] [(g, cs)]) := HM
    by_cases hi : i < zs.length
    · obtain ⟨z, hz⟩ : ∃ z, zs[i]? = some z := ⟨zs[i], List.getElem?_eq_getElem hi⟩
      obtain ⟨b, c', e0, hbl, hcells⟩ := (hP'.below HM.below).at (rK_get hz)
      rw [rK_len] at e0
      cases e0
      have hi' : (i : Int) < (zs.length : Int) := by omega
      have C : Aside ((b.add (i * 5)).block < wr.heap.size ∧ ∀ k x, [Value.int .i16 z.1, .int .i16 z.2.1, .int .i16 z.2.2.1, .int .i16 z.2.2.2.1, .int .i8 z.2.2.2.2][k]? = some x → wr.cell? ((b.add (i * 5)).add k) = some x) := ⟨hbl, hcells⟩
      have P0 : Aside (zs[i]? = some z) := hz
      clear hcells hbl hP' hz hik hl htk HM hmk
      go_wp2_with (first
        | (refine wpList_idxR rfl rfl (by kernel_rfl) (by kernel_rfl) rfl rfl (Int.natCast_nonneg _) hi' ?_; simp only [Int.toNat_natCast, Addr.add_mid, Nat.zero_add])
        | (refine wpList_rowR rfl rfl (n := 5) (by kernel_rfl) rfl rfl C.out.2 ?_)
        | (go_at_call 40; refine (toStrokeA _ _ _ _ _ _).mono ?_; rintro e w' ⟨_, rfl, rfl, hb⟩; have HM2 := hMA.out.call hb; have hM2 : Aside (Mem w w' [] [(g, cs)]) := HM2; clear HM2 hb)
        | (refine wpList_store (b := g) (off := i * 5) (cs := cs) (vs := [.int .i16 z.1, .int .i16 z.2.1, .int .i16 z.2.2.1, .int .i16 z.2.2.2.1, .int .i8 z.2.2.2.2]) hM2.out 0 rfl rfl rfl rfl rfl rfl h47.out rfl (Nat.ble_eq_true_of_le (by have := B.out.2.1; simp only [List.length_cons, List.length_nil]; omega)) ?_; intro w3 hM3; have hM4 : Aside (Mem w w3 [] [(g, splice cs (i * 5) [.int .i16 z.1, .int .i16 z.2.1, .int .i16 z.2.2.1, .int .i16 z.2.2.2.1, .int .i8 z.2.2.2.2])]) := hM3; clear hM3))
      obtain ⟨hik, hl, htk⟩ := B.out
      go_roundg (gk - 1)
      · refine ⟨i + 1, _, ?_, by omega, ?_, hM4.out, ?_⟩
        · first
            | (congr 1; done)
            | (congr 1; have := G.out.2; unfold wrap64; omega)
        · rw [splice_length]; exact hl
        · have e := splice_takeR cs [.int .i16 z.1, .int .i16 z.2.1, .int .i16 z.2.2.1, .int .i16 z.2.2.2.1, .int .i8 z.2.2.2.2] (i * 5) (by simp only [List.length_cons, List.length_nil]; omega)
          simp only [List.length_cons, List.length_nil] at e
          rw [flatten_take (rK_get P0.out), ← htk, show ((i + 1) * 5) = i * 5 + (0 + 1 + 1 + 1 + 1 + 1) by omega]; exact e
      · omega
    · have hi' : ¬ ((i : Int) < (zs.length : Int)) := by omega
      obtain ⟨hik, hl, htk⟩ := B.out
      have hie : i = zs.length := by omega
      clear hmk M0
      go_wp2_with fail
      simp [bodyPost, results, Try.results15, go_sem]
      have hcs : cs = (rK zs).flatten := by
        rw [hie, List.take_of_length_le (by omega), List.take_of_length_le (by rw [rK_len]; omega)] at htk
        exact htk
      rw [← hcs]; exact hMA.out
--## d
theorem toStrokeSB (v : Value) (zs : List (Int × Int × Int × Int × Int)) (w : World) (hP : Rls 5 w v (rK zs)) (hn : zs.length ≤ 1048576) :
    Calls Try.prog 15 #[v] w (fun e w' => ∃ x, e = .returned x ∧ Rls 5 w' x (rK zs) ∧ Below w.heap.size w w') :=
  (toStrokeSA v zs w hP hn).mono fun e w' ⟨he, hM⟩ => by
    have hx := rls_flat (rs := rK zs) rK_row hM (List.mem_singleton.2 rfl)
    rw [rK_len] at hx
    exact ⟨_, he, hx, hM.below⟩
--## d
set_option maxHeartbeats 400000 in
theorem szStrokeSA (v : Value) (zs : List (Int × Int × Int × Int × Int)) (L : Int) (w : World) (hP : Rls 5 w v (rK zs)) (hc : zs.length < 2 ^ 63) (hL : 0 ≤ L ∧ L ≤ 1048576) :
    Calls Try.prog 13 #[v, .int .i64 L] w (Gives (fun v => v = .int .i64 (if (zs.length : Int) ≤ L then L - zs.length else -1)) w) := by
  obtain ⟨a, c, rfl, _⟩ := hP
  rw [rK_len]
  by_cases h : (zs.length : Int) ≤ L
  · rw [if_pos h]
    have h1 : ¬ (L - (zs.length : Int) < 0) := by omega
    have h2 : (wrap64 (L - (zs.length : Int))) = L - (zs.length : Int) := by unfold wrap64; omega
    go_enter Try.func13, Try.ntmps13
    go_wp2_with fail
    all_goals
      simp [bodyPost, results, Try.results13, go_sem]
    exact ⟨_, rfl, rfl, Below.refl _ _⟩
  · rw [if_neg h]
    have h1 : (L - (zs.length : Int) < 0) := by omega
    have h2 : (wrap64 (L - (zs.length : Int))) = L - (zs.length : Int) := by unfold wrap64; omega
    go_enter Try.func13, Try.ntmps13
    go_wp2_with fail
    all_goals
      simp [bodyPost, results, Try.results13, go_sem]
    exact ⟨_, rfl, rfl, Below.refl _ _⟩
--## d
set_option maxRecDepth 20000 in
set_option maxHeartbeats 4000000 in
theorem eqStrokeSA (v u : Value) (zs : List (Int × Int × Int × Int × Int)) (w : World) (hP : Rls 5 w v (rK zs)) (hQ : Rls 5 w u (rK zs)) (hn : zs.length ≤ 1048576) :
    Calls Try.prog 20 #[v, u] w (Gives (isB true) w) := by
  have hP' := hP
  have hQ' := hQ
  obtain ⟨a, c, rfl, _⟩ := hP
  obtain ⟨a2, c2, rfl, _⟩ := hQ
  rw [rK_len] at *
  go_enter Try.func20, Try.ntmps20
  go_wp2_with fail
  go_loopg [5] zs.length (fun k s5 wr => ∃ (i : Nat), s5 = .int .i64 i ∧ i + k = zs.length ∧ Below w.heap.size w wr)
  · exact ⟨0, rfl, by omega, Below.refl _ _⟩
  · obtain ⟨i, rfl, hik, HB⟩ := hrel
    have B : Aside (i + gk = zs.length ∧ Below w.heap.size w wr ∧ zs.length ≤ 1048576) := ⟨hik, HB, hn⟩
    by_cases hi : i < zs.length
    · obtain ⟨z, hz⟩ : ∃ z, zs[i]? = some z := ⟨zs[i], List.getElem?_eq_getElem hi⟩
      obtain ⟨b, c1, e1, hb1, hc1⟩ := (hP'.below HB).at (rK_get hz)
      obtain ⟨b2, c3, e2, hb2, hc2⟩ := (hQ'.below HB).at (rK_get hz)
      rw [rK_len] at e1 e2
      cases e1
      cases e2
      have hi' : (i : Int) < (zs.length : Int) := by omega
      have hi0 : (0 : Int) ≤ (i : Int) := Int.natCast_nonneg _
      have hK : ∀ W, Bel wr W → W.cell? (b.add (i * 5)) = some (.int .i16 z.1) ∧ W.cell? ⟨(b.add (i * 5)).block, (b.add (i * 5)).off + 1, none⟩ = some (.int .i16 z.2.1) ∧ W.cell? ⟨(b.add (i * 5)).block, (b.add (i * 5)).off + 2, none⟩ = some (.int .i16 z.2.2.1) ∧ W.cell? ⟨(b.add (i * 5)).block, (b.add (i * 5)).off + 3, none⟩ = some (.int .i16 z.2.2.2.1) ∧ W.cell? ⟨(b.add (i * 5)).block, (b.add (i * 5)).off + 4, none⟩ = some (.int .i8 z.2.2.2.2) ∧ W.cell? (b2.add (i * 5)) = some (.int .i16 z.1) ∧ W.cell? ⟨(b2.add (i * 5)).block, (b2.add (i * 5)).off + 1, none⟩ = some (.int .i16 z.2.1) ∧ W.cell? ⟨(b2.add (i * 5)).block, (b2.add (i * 5)).off + 2, none⟩ = some (.int .i16 z.2.2.1) ∧ W.cell? ⟨(b2.add (i * 5)).block, (b2.add (i * 5)).off + 3, none⟩ = some (.int .i16 z.2.2.2.1) ∧ W.cell? ⟨(b2.add (i * 5)).block, (b2.add (i * 5)).off + 4, none⟩ = some (.int .i8 z.2.2.2.2) ∧ Bel wr W := fun W hW =>
        ⟨cells_later hW.out hb1 hc1 0 _ rfl, cells_later hW.out hb1 hc1 1 _ rfl, cells_later hW.out hb1 hc1 2 _ rfl, cells_later hW.out hb1 hc1 3 _ rfl, cells_later hW.out hb1 hc1 4 _ rfl, cells_later hW.out hb2 hc2 0 _ rfl, cells_later hW.out hb2 hc2 1 _ rfl, cells_later hW.out hb2 hc2 2 _ rfl, cells_later hW.out hb2 hc2 3 _ rfl, cells_later hW.out hb2 hc2 4 _ rfl, hW⟩
      clear hz hik hP' hQ' HB hb1 hb2 hc1 hc2
      go_wp2_with fail
      go_region_held3 (fun W => W.cell? (b.add (i * 5)) = some (.int .i16 z.1) ∧ W.cell? ⟨(b.add (i * 5)).block, (b.add (i * 5)).off + 1, none⟩ = some (.int .i16 z.2.1) ∧ W.cell? ⟨(b.add (i * 5)).block, (b.add (i * 5)).off + 2, none⟩ = some (.int .i16 z.2.2.1) ∧ W.cell? ⟨(b.add (i * 5)).block, (b.add (i * 5)).off + 3, none⟩ = some (.int .i16 z.2.2.2.1) ∧ W.cell? ⟨(b.add (i * 5)).block, (b.add (i * 5)).off + 4, none⟩ = some (.int .i8 z.2.2.2.2) ∧ W.cell? (b2.add (i * 5)) = some (.int .i16 z.1) ∧ W.cell? ⟨(b2.add (i * 5)).block, (b2.add (i * 5)).off + 1, none⟩ = some (.int .i16 z.2.1) ∧ W.cell? ⟨(b2.add (i * 5)).block, (b2.add (i * 5)).off + 2, none⟩ = some (.int .i16 z.2.2.1) ∧ W.cell? ⟨(b2.add (i * 5)).block, (b2.add (i * 5)).off + 3, none⟩ = some (.int .i16 z.2.2.2.1) ∧ W.cell? ⟨(b2.add (i * 5)).block, (b2.add (i * 5)).off + 4, none⟩ = some (.int .i8 z.2.2.2.2) ∧ Bel wr W) (first | (with_reducible assumption) | (refine hK _ ?_; (repeat' (first | (with_reducible exact Bel.refl _) | (with_reducible assumption) | (with_reducible exact And.right (And.right (And.right (And.right (And.right (And.right (And.right (And.right (And.right (And.right (by assumption))))))))))) | (with_reducible refine Bel.drew ?_))); done) | go_keep) (first | (go_at_call 44; refine (eqStrokeA _ _ _ _ _ _).mono ?_; rintro e w2 ⟨_, rfl, rfl, hb⟩; have HBl := Bel.step (And.right (And.right (And.right (And.right (And.right (And.right (And.right (And.right (And.right (And.right (by assumption))))))))))) hb))
      all_goals go_wp2_with fail
      all_goals
        obtain ⟨hik, HB, hn'⟩ := B.out
        go_roundg (gk - 1)
        · refine ⟨i + 1, ?_, by omega, below_step HBl.out HB⟩
          first
            | (congr 1; done)
            | (congr 1; unfold wrap64; omega)
        · omega
    · have hi' : ¬ ((i : Int) < (zs.length : Int)) := by omega
      clear hP' hQ'
      go_wp2_with fail
      simp [bodyPost, results, Try.results20, go_sem]
      exact ⟨_, rfl, rfl, HB⟩
--## d
end Go.Proofs.Ytbhbdpcefgledaa
