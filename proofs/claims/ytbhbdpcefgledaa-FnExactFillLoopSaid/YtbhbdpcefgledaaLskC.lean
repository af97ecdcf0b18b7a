/- Contracts: the laws' own functions over lists of strokes, marks, whole numbers, truths: copied, measured, compared. -/
import Derived.Test.YtbhbdpcefgledaaMrkO
import Derived.Test.YtbhbdpcefgledaaLstG
import Derived.Test.YtbhbdpcefgledaaEqS
namespace Go.Proofs.Ytbhbdpcefgledaa
--## d
open Go.ChangeShapes Go.WideShapes Go.ChangeAt Go.RowKit Go.Flo Go.Mem
set_option linter.unusedSimpArgs false
set_option linter.unusedVariables false
set_option maxRecDepth 20000
--## d
def rJ (zs : List (Int)) : List (List Value) := zs.map fun z => [.int .i64 z]
--## d
theorem rJ_len {zs : List (Int)} : (rJ zs).length = zs.length := by simp [rJ]
--## d
theorem rJ_row {zs : List (Int)} : ∀ r ∈ rJ zs, r.length = 1 := by
  intro r hr
  simp only [rJ, List.mem_map] at hr
  obtain ⟨t, _, rfl⟩ := hr
  rfl
--## d
theorem rJ_get {zs : List (Int)} {i : Nat} {z : Int} (h : zs[i]? = some z) : (rJ zs)[i]? = some [.int .i64 z] := by simp [rJ, h]
--## d
theorem makeInt64S (n : Nat) (hn : n ≤ 1048576) (w : World) : (Instr.makeSlice 39 (.int .i64 n) (.int .i64 n)).run Try.prog w = .ok (.slice (some ⟨w.heap.size, 0, none⟩) n n) (w.alloc (.cells (madeCells #[.int .i64 0] n) 2)) := by
  have h := makeR (P := Try.prog) (s := 39) (e := 2) (z := .int .i64 0) (m := 1) (bytes := 8) (by kernel_rfl) (by kernel_rfl) (by kernel_rfl) (by kernel_rfl) (by kernel_rfl) (by omega) n hn w
  rw [Nat.mul_one] at h
  exact h
--## d
set_option maxRecDepth 20000 in
set_option maxHeartbeats 4000000 in
theorem toInt64SA (v : Value) (zs : List (Int)) (w : World) (hP : Rls 1 w v (rJ zs)) (hn : zs.length ≤ 1048576) :
    Calls Try.prog 27 #[v] w (fun e w' => e = .returned (.slice (some ⟨w.heap.size, 0, none⟩) zs.length zs.length) ∧ Mem w w' [] [(w.heap.size, (rJ zs).flatten)]) := by
  have hP' := hP
  obtain ⟨a, c, rfl, _⟩ := hP
  obtain ⟨g, hg⟩ : ∃ g, g = w.heap.size := ⟨_, rfl⟩
  have hmk := makeInt64S zs.length hn w
  rw [← hg] at hmk ⊢
  rw [rJ_len] at *
  have G : Aside (g = w.heap.size ∧ zs.length ≤ 1048576) := ⟨hg, hn⟩
  have hM0 := (Mem.start w).alloc (madeCells #[.int .i64 0] zs.length) 2
  rw [← hg] at hM0
  have M0 : Aside (Mem w (w.alloc (.cells (madeCells #[.int .i64 0] zs.length) 2)) [] [(g, (madeCells #[.int .i64 0] zs.length).toList)]) := hM0
  clear hM0 hg hn
  have h47 : Aside ((Try.prog.info? 2).map (·.size) = some 1) := (by kernel_rfl : (Try.prog.info? 2).map (·.size) = some 1)
  go_enter Try.func27, Try.ntmps27
  go_wp2_with fail
  go_loopg [4] zs.length (fun k s4 wr => ∃ (i : Nat) (cs : List Value), s4 = .int .i64 i ∧ i + k = zs.length ∧ cs.length = zs.length ∧ Mem w wr [] [(g, cs)] ∧ cs.take i = ((rJ zs).take i).flatten)
  · exact ⟨0, _, rfl, by omega, by simp [size_madeCells], M0.out, rfl⟩
  · obtain ⟨i, cs, rfl, hik, hl, HM, htk⟩ := hrel
    have B : Aside (i + gk = zs.length ∧ cs.length = zs.length ∧ cs.take i = ((rJ zs).take i).flatten) := ⟨hik, hl, htk⟩
    have hMA : Aside (Mem w wr [] [(g, cs)]) := HM
    by_cases hi : i < zs.length
    · obtain ⟨z, hz⟩ : ∃ z, zs[i]? = some z := ⟨zs[i], List.getElem?_eq_getElem hi⟩
      obtain ⟨b, c', e0, hbl, hcells⟩ := (hP'.below HM.below).at (rJ_get hz)
      rw [rJ_len] at e0
      cases e0
      have hi' : (i : Int) < (zs.length : Int) := by omega
      have hc0 : wr.cell? (b.add i) = some (.int .i64 z) := by have := hcells 0 _ rfl; rw [Nat.mul_one] at this; exact this
      have P0 : Aside (zs[i]? = some z) := hz
      clear hcells hbl hP' hz hik hl htk HM hmk
      go_wp2_with (first
        | (refine wpList_idxR rfl rfl (by kernel_rfl) (by kernel_rfl) rfl rfl (Int.natCast_nonneg _) hi' ?_; simp only [Int.toNat_natCast, Nat.mul_one, Addr.add_mid, Nat.zero_add])
        | (refine wpList_store (b := g) (off := i) (cs := cs) (vs := [.int .i64 z]) hMA.out 0 rfl rfl rfl rfl rfl rfl h47.out rfl (Nat.ble_eq_true_of_le (by have := B.out.2.1; simp only [List.length_cons, List.length_nil]; omega)) ?_; intro w3 hM3; have hM4 : Aside (Mem w w3 [] [(g, splice cs i [.int .i64 z])]) := hM3; clear hM3))
      obtain ⟨hik, hl, htk⟩ := B.out
      go_roundg (gk - 1)
      · refine ⟨i + 1, _, ?_, by omega, ?_, hM4.out, ?_⟩
        · first
            | (congr 1; done)
            | (congr 1; have := G.out.2; unfold wrap64; omega)
        · rw [splice_length]; exact hl
        · have e := splice_takeR cs [.int .i64 z] i (by simp only [List.length_cons, List.length_nil]; omega)
          simp only [List.length_cons, List.length_nil] at e
          rw [flatten_take (rJ_get P0.out), ← htk, show (i + 1) = i + (0 + 1) by omega]; exact e
      · omega
    · have hi' : ¬ ((i : Int) < (zs.length : Int)) := by omega
      obtain ⟨hik, hl, htk⟩ := B.out
      have hie : i = zs.length := by omega
      clear hmk M0
      go_wp2_with fail
      simp [bodyPost, results, Try.results27, go_sem]
      have hcs : cs = (rJ zs).flatten := by
        rw [hie, List.take_of_length_le (by omega), List.take_of_length_le (by rw [rJ_len]; omega)] at htk
        exact htk
      rw [← hcs]; exact hMA.out
--## d
theorem toInt64SB (v : Value) (zs : List (Int)) (w : World) (hP : Rls 1 w v (rJ zs)) (hn : zs.length ≤ 1048576) :
    Calls Try.prog 27 #[v] w (fun e w' => ∃ x, e = .returned x ∧ Rls 1 w' x (rJ zs) ∧ Below w.heap.size w w') :=
  (toInt64SA v zs w hP hn).mono fun e w' ⟨he, hM⟩ => by
    have hx := rls_flat (rs := rJ zs) rJ_row hM (List.mem_singleton.2 rfl)
    rw [rJ_len] at hx
    exact ⟨_, he, hx, hM.below⟩
--## d
set_option maxRecDepth 20000 in
set_option maxHeartbeats 4000000 in
theorem eqInt64SA (v u : Value) (zs : List (Int)) (w : World) (hP : Rls 1 w v (rJ zs)) (hQ : Rls 1 w u (rJ zs)) (hn : zs.length ≤ 1048576) :
    Calls Try.prog 18 #[v, u] w (Gives (isB true) w) := by
  have hP' := hP
  have hQ' := hQ
  obtain ⟨a, c, rfl, _⟩ := hP
  obtain ⟨a2, c2, rfl, _⟩ := hQ
  rw [rJ_len] at *
  go_enter Try.func18, Try.ntmps18
  go_wp2_with fail
  go_loopg [5] zs.length (fun k s5 wr => ∃ (i : Nat), s5 = .int .i64 i ∧ i + k = zs.length ∧ Below w.heap.size w wr)
  · exact ⟨0, rfl, by omega, Below.refl _ _⟩
  · obtain ⟨i, rfl, hik, HB⟩ := hrel
    have B : Aside (i + gk = zs.length ∧ Below w.heap.size w wr ∧ zs.length ≤ 1048576) := ⟨hik, HB, hn⟩
    by_cases hi : i < zs.length
    · obtain ⟨z, hz⟩ : ∃ z, zs[i]? = some z := ⟨zs[i], List.getElem?_eq_getElem hi⟩
      obtain ⟨b, c1, e1, hb1, hc1⟩ := (hP'.below HB).at (rJ_get hz)
      obtain ⟨b2, c3, e2, hb2, hc2⟩ := (hQ'.below HB).at (rJ_get hz)
      rw [rJ_len] at e1 e2
      cases e1
      cases e2
      have hi' : (i : Int) < (zs.length : Int) := by omega
      have hi0 : (0 : Int) ≤ (i : Int) := Int.natCast_nonneg _
      have hK : ∀ W, Bel wr W → W.cell? (b.add i) = some (.int .i64 z) ∧ W.cell? (b2.add i) = some (.int .i64 z) ∧ Bel wr W := fun W hW =>
        ⟨by rw [hW.out.cell (by rw [Nat.mul_one] at hb1; exact hb1)]; have := hc1 0 _ rfl; rw [Nat.mul_one] at this; exact this, by rw [hW.out.cell (by rw [Nat.mul_one] at hb2; exact hb2)]; have := hc2 0 _ rfl; rw [Nat.mul_one] at this; exact this, hW⟩
      clear hz hik hP' hQ' HB hb1 hb2 hc1 hc2
      go_wp2_with fail
      go_region_held3 (fun W => W.cell? (b.add i) = some (.int .i64 z) ∧ W.cell? (b2.add i) = some (.int .i64 z) ∧ Bel wr W) (first | (with_reducible assumption) | (refine hK _ ?_; (repeat' (first | (with_reducible exact Bel.refl _) | (with_reducible assumption) | (with_reducible exact And.right (And.right (by assumption))) | (with_reducible refine Bel.drew ?_))); done) | go_keep) (first | fail)
      all_goals go_wp2_with fail
      all_goals
        obtain ⟨hik, HB, hn'⟩ := B.out
        go_roundg (gk - 1)
        · refine ⟨i + 1, ?_, by omega, below_step (Bel.out (by first | exact (And.right (And.right (by assumption))) | exact Bel.refl _ | exact Bel.drew (Bel.refl _))) HB⟩
          first
            | (congr 1; done)
            | (congr 1; unfold wrap64; omega)
        · omega
    · have hi' : ¬ ((i : Int) < (zs.length : Int)) := by omega
      clear hP' hQ'
      go_wp2_with fail
      simp [bodyPost, results, Try.results18, go_sem]
      exact ⟨_, rfl, rfl, HB⟩
--## d
def rB (zs : List (Bool)) : List (List Value) := zs.map fun z => [.bool z]
--## d
theorem rB_len {zs : List (Bool)} : (rB zs).length = zs.length := by simp [rB]
--## d
theorem rB_row {zs : List (Bool)} : ∀ r ∈ rB zs, r.length = 1 := by
  intro r hr
  simp only [rB, List.mem_map] at hr
  obtain ⟨t, _, rfl⟩ := hr
  rfl
--## d
theorem rB_get {zs : List (Bool)} {i : Nat} {z : Bool} (h : zs[i]? = some z) : (rB zs)[i]? = some [.bool z] := by simp [rB, h]
--## d
theorem makeBoolS (n : Nat) (hn : n ≤ 1048576) (w : World) : (Instr.makeSlice 40 (.int .i64 n) (.int .i64 n)).run Try.prog w = .ok (.slice (some ⟨w.heap.size, 0, none⟩) n n) (w.alloc (.cells (madeCells #[.bool false] n) 4)) := by
  have h := makeR (P := Try.prog) (s := 40) (e := 4) (z := .bool false) (m := 1) (bytes := 1) (by kernel_rfl) (by kernel_rfl) (by kernel_rfl) (by kernel_rfl) (by kernel_rfl) (by omega) n hn w
  rw [Nat.mul_one] at h
  exact h
--## d
set_option maxRecDepth 20000 in
set_option maxHeartbeats 4000000 in
theorem toBoolSA (v : Value) (zs : List (Bool)) (w : World) (hP : Rls 1 w v (rB zs)) (hn : zs.length ≤ 1048576) :
    Calls Try.prog 28 #[v] w (fun e w' => e = .returned (.slice (some ⟨w.heap.size, 0, none⟩) zs.length zs.length) ∧ Mem w w' [] [(w.heap.size, (rB zs).flatten)]) := by
  have hP' := hP
  obtain ⟨a, c, rfl, _⟩ := hP
  obtain ⟨g, hg⟩ : ∃ g, g = w.heap.size := ⟨_, rfl⟩
  have hmk := makeBoolS zs.length hn w
  rw [← hg] at hmk ⊢
  rw [rB_len] at *
  have G : Aside (g = w.heap.size ∧ zs.length ≤ 1048576) := ⟨hg, hn⟩
  have hM0 := (Mem.start w).alloc (madeCells #[.bool false] zs.length) 4
  rw [← hg] at hM0
  have M0 : Aside (Mem w (w.alloc (.cells (madeCells #[.bool false] zs.length) 4)) [] [(g, (madeCells #[.bool false] zs.length).toList)]) := hM0
  clear hM0 hg hn
  have h47 : Aside ((Try.prog.info? 4).map (·.size) = some 1) := (by kernel_rfl : (Try.prog.info? 4).map (·.size) = some 1)
  go_enter Try.func28, Try.ntmps28
  go_wp2_with fail
  go_loopg [4] zs.length (fun k s4 wr => ∃ (i : Nat) (cs : List Value), s4 = .int .i64 i ∧ i + k = zs.length ∧ cs.length = zs.length ∧ Mem w wr [] [(g, cs)] ∧ cs.take i = ((rB zs).take i).flatten)
  · exact ⟨0, _, rfl, by omega, by simp [size_madeCells], M0.out, rfl⟩
  · obtain ⟨i, cs, rfl, hik, hl, HM, htk⟩ := hrel
    have B : Aside (i + gk = zs.length ∧ cs.length = zs.length ∧ cs.take i = ((rB zs).take i).flatten) := ⟨hik, hl, htk⟩
    have hMA : Aside (Mem w wr [] [(g, cs)]) := HM
    by_cases hi : i < zs.length
    · obtain ⟨z, hz⟩ : ∃ z, zs[i]? = some z := ⟨zs[i], List.getElem?_eq_getElem hi⟩
      obtain ⟨b, c', e0, hbl, hcells⟩ := (hP'.below HM.below).at (rB_get hz)
      rw [rB_len] at e0
      cases e0
      have hi' : (i : Int) < (zs.length : Int) := by omega
      have hc0 : wr.cell? (b.add i) = some (.bool z) := by have := hcells 0 _ rfl; rw [Nat.mul_one] at this; exact this
      have P0 : Aside (zs[i]? = some z) := hz
      clear hcells hbl hP' hz hik hl htk HM hmk
      go_wp2_with (first
        | (refine wpList_idxR rfl rfl (by kernel_rfl) (by kernel_rfl) rfl rfl (Int.natCast_nonneg _) hi' ?_; simp only [Int.toNat_natCast, Nat.mul_one, Addr.add_mid, Nat.zero_add])
        | (refine wpList_store (b := g) (off := i) (cs := cs) (vs := [.bool z]) hMA.out 0 rfl rfl rfl rfl rfl rfl h47.out rfl (Nat.ble_eq_true_of_le (by have := B.out.2.1; simp only [List.length_cons, List.length_nil]; omega)) ?_; intro w3 hM3; have hM4 : Aside (Mem w w3 [] [(g, splice cs i [.bool z])]) := hM3; clear hM3))
      obtain ⟨hik, hl, htk⟩ := B.out
      go_roundg (gk - 1)
      · refine ⟨i + 1, _, ?_, by omega, ?_, hM4.out, ?_⟩
        · first
            | (congr 1; done)
            | (congr 1; have := G.out.2; unfold wrap64; omega)
        · rw [splice_length]; exact hl
        · have e := splice_takeR cs [.bool z] i (by simp only [List.length_cons, List.length_nil]; omega)
          simp only [List.length_cons, List.length_nil] at e
          rw [flatten_take (rB_get P0.out), ← htk, show (i + 1) = i + (0 + 1) by omega]; exact e
      · omega
    · have hi' : ¬ ((i : Int) < (zs.length : Int)) := by omega
      obtain ⟨hik, hl, htk⟩ := B.out
      have hie : i = zs.length := by omega
      clear hmk M0
      go_wp2_with fail
      simp [bodyPost, results, Try.results28, go_sem]
      have hcs : cs = (rB zs).flatten := by
        rw [hie, List.take_of_length_le (by omega), List.take_of_length_le (by rw [rB_len]; omega)] at htk
        exact htk
      rw [← hcs]; exact hMA.out
--## d
theorem toBoolSB (v : Value) (zs : List (Bool)) (w : World) (hP : Rls 1 w v (rB zs)) (hn : zs.length ≤ 1048576) :
    Calls Try.prog 28 #[v] w (fun e w' => ∃ x, e = .returned x ∧ Rls 1 w' x (rB zs) ∧ Below w.heap.size w w') :=
  (toBoolSA v zs w hP hn).mono fun e w' ⟨he, hM⟩ => by
    have hx := rls_flat (rs := rB zs) rB_row hM (List.mem_singleton.2 rfl)
    rw [rB_len] at hx
    exact ⟨_, he, hx, hM.below⟩
--## d
set_option maxRecDepth 20000 in
set_option maxHeartbeats 4000000 in
theorem eqBoolSA (v u : Value) (zs : List (Bool)) (w : World) (hP : Rls 1 w v (rB zs)) (hQ : Rls 1 w u (rB zs)) (hn : zs.length ≤ 1048576) :
    Calls Try.prog 19 #[v, u] w (Gives (isB true) w) := by
  have hP' := hP
  have hQ' := hQ
  obtain ⟨a, c, rfl, _⟩ := hP
  obtain ⟨a2, c2, rfl, _⟩ := hQ
  rw [rB_len] at *
  go_enter Try.func19, Try.ntmps19
  go_wp2_with fail
  go_loopg [5] zs.length (fun k s5 wr => ∃ (i : Nat), s5 = .int .i64 i ∧ i + k = zs.length ∧ Below w.heap.size w wr)
  · exact ⟨0, rfl, by omega, Below.refl _ _⟩
  · obtain ⟨i, rfl, hik, HB⟩ := hrel
    have B : Aside (i + gk = zs.length ∧ Below w.heap.size w wr ∧ zs.length ≤ 1048576) := ⟨hik, HB, hn⟩
    by_cases hi : i < zs.length
    · obtain ⟨z, hz⟩ : ∃ z, zs[i]? = some z := ⟨zs[i], List.getElem?_eq_getElem hi⟩
      obtain ⟨b, c1, e1, hb1, hc1⟩ := (hP'.below HB).at (rB_get hz)
      obtain ⟨b2, c3, e2, hb2, hc2⟩ := (hQ'.below HB).at (rB_get hz)
      rw [rB_len] at e1 e2
      cases e1
      cases e2
      have hi' : (i : Int) < (zs.length : Int) := by omega
      have hi0 : (0 : Int) ≤ (i : Int) := Int.natCast_nonneg _
      have hK : ∀ W, Bel wr W → W.cell? (b.add i) = some (.bool z) ∧ W.cell? (b2.add i) = some (.bool z) ∧ Bel wr W := fun W hW =>
        ⟨by rw [hW.out.cell (by rw [Nat.mul_one] at hb1; exact hb1)]; have := hc1 0 _ rfl; rw [Nat.mul_one] at this; exact this, by rw [hW.out.cell (by rw [Nat.mul_one] at hb2; exact hb2)]; have := hc2 0 _ rfl; rw [Nat.mul_one] at this; exact this, hW⟩
      clear hz hik hP' hQ' HB hb1 hb2 hc1 hc2
      go_wp2_with fail
      go_region_held3 (fun W => W.cell? (b.add i) = some (.bool z) ∧ W.cell? (b2.add i) = some (.bool z) ∧ Bel wr W) (first | (with_reducible assumption) | (refine hK _ ?_; (repeat' (first | (with_reducible exact Bel.refl _) | (with_reducible assumption) | (with_reducible exact And.right (And.right (by assumption))) | (with_reducible refine Bel.drew ?_))); done) | go_keep) (first | fail)
      all_goals go_wp2_with fail
      all_goals
        obtain ⟨hik, HB, hn'⟩ := B.out
        go_roundg (gk - 1)
        · refine ⟨i + 1, ?_, by omega, below_step (Bel.out (by first | exact (And.right (And.right (by assumption))) | exact Bel.refl _ | exact Bel.drew (Bel.refl _))) HB⟩
          first
            | (congr 1; done)
            | (congr 1; unfold wrap64; omega)
        · omega
    · have hi' : ¬ ((i : Int) < (zs.length : Int)) := by omega
      clear hP' hQ'
      go_wp2_with fail
      simp [bodyPost, results, Try.results19, go_sem]
      exact ⟨_, rfl, rfl, HB⟩
--## d
end Go.Proofs.Ytbhbdpcefgledaa
