/- Contracts: the laws' own functions over lists of strokes, marks, whole numbers, truths: copied, measured, compared. -/
import Derived.Test.YtbhbdpcefgledaaMrkO
import Derived.Test.YtbhbdpcefgledaaLstG
import Derived.Test.YtbhbdpcefgledaaEqS
import Derived.Test.YtbhbdpcefgledaaMrkB
import Derived.Test.YtbhbdpcefgledaaMrkE
namespace Go.Proofs.Ytbhbdpcefgledaa
--## d
open Go.ChangeShapes Go.WideShapes Go.ChangeAt Go.RowKit Go.Flo Go.Mem
set_option linter.unusedSimpArgs false
set_option linter.unusedVariables false
set_option maxRecDepth 20000
--## d
theorem makeMarkS (n : Nat) (hn : n ≤ 1048576) (w : World) : (Instr.makeSlice 30 (.int .i64 n) (.int .i64 n)).run Try.prog w = .ok (.slice (some ⟨w.heap.size, 0, none⟩) n n) (w.alloc (.cells (madeCells #[.int .i16 0, .int .i16 0] (n * 2)) 45)) := by
  have h := makeR (P := Try.prog) (s := 30) (e := 45) (z := .agg #[.int .i16 0, .int .i16 0]) (m := 2) (bytes := 4) (by kernel_rfl) (by kernel_rfl) (by kernel_rfl) (by kernel_rfl) (by kernel_rfl) (by omega) n hn w
  exact h
--## d
theorem rM_row' : True := trivial
--## d
set_option maxRecDepth 20000 in
set_option maxHeartbeats 4000000 in
theorem toMarkSA (v : Value) (zs : List (Int × Int)) (w : World) (hP : Rls 2 w v (rM zs)) (hn : zs.length ≤ 1048576) :
    Calls Try.prog 9 #[v] w (fun e w' => e = .returned (.slice (some ⟨w.heap.size, 0, none⟩) zs.length zs.length) ∧ Mem w w' [] [(w.heap.size, (rM zs).flatten)]) := by
  have hP' := hP
  obtain ⟨a, c, rfl, _⟩ := hP
  obtain ⟨g, hg⟩ : ∃ g, g = w.heap.size := ⟨_, rfl⟩
  have hmk := makeMarkS zs.length hn w
  rw [← hg] at hmk ⊢
  rw [rM_len] at *
  have G : Aside (g = w.heap.size ∧ zs.length ≤ 1048576) := ⟨hg, hn⟩
  have hM0 := (Mem.start w).alloc (madeCells #[.int .i16 0, .int .i16 0] (zs.length * 2)) 45
  rw [← hg] at hM0
  have M0 : Aside (Mem w (w.alloc (.cells (madeCells #[.int .i16 0, .int .i16 0] (zs.length * 2)) 45)) [] [(g, (madeCells #[.int .i16 0, .int .i16 0] (zs.length * 2)).toList)]) := hM0
  clear hM0 hg hn
  have h47 : Aside ((Try.prog.info? 45).map (·.size) = some 2) := (by kernel_rfl : (Try.prog.info? 45).map (·.size) = some 2)
  go_enter Try.func9, Try.ntmps9
  go_wp2_with fail
  go_loopg [4] zs.length (fun k s4 wr => ∃ (i : Nat) (cs : List Value), s4 = .int .i64 i ∧ i + k = zs.length ∧ cs.length = zs.length * 2 ∧ Mem w wr [] [(g, cs)] ∧ cs.take (i * 2) = ((rM zs).take i).flatten)
  · exact ⟨0, _, rfl, by omega, by simp [size_madeCells], M0.out, rfl⟩
  · obtain ⟨i, cs, rfl, hik, hl, HM, htk⟩ := hrel
    have B : Aside (i + gk = zs.length ∧ cs.length = zs.length * 2 ∧ cs.take (i * 2) = ((rM zs).take i).flatten) := ⟨hik, hl, htk⟩
    have hMA : Aside (Mem w wr [] [(g, cs)]) := HM
    by_cases hi : i < zs.length
    · obtain ⟨z, hz⟩ : ∃ z, zs[i]? = some z := ⟨zs[i], List.getElem?_eq_getElem hi⟩
      obtain ⟨b, c', e0, hbl, hcells⟩ := (hP'.below HM.below).at (rM_get hz)
      rw [rM_len] at e0
      cases e0
      have hi' : (i : Int) < (zs.length : Int) := by omega
      have C : Aside ((b.add (i * 2)).block < wr.heap.size ∧ ∀ k x, [Value.int .i16 z.1, .int .i16 z.2][k]? = some x → wr.cell? ((b.add (i * 2)).add k) = some x) := ⟨hbl, hcells⟩
      have P0 : Aside (zs[i]? = some z) := hz
      clear hcells hbl hP' hz hik hl htk HM hmk
      go_wp2_with (first
        | (refine wpList_idxR rfl rfl (by kernel_rfl) (by kernel_rfl) rfl rfl (Int.natCast_nonneg _) hi' ?_; simp only [Int.toNat_natCast, Addr.add_mid, Nat.zero_add])
        | (refine wpList_rowR rfl rfl (n := 2) (by kernel_rfl) rfl rfl C.out.2 ?_)
        | (go_at_call 16; refine (toMarkA _ _ _).mono ?_; rintro e w' ⟨_, rfl, rfl, hb⟩; have HM2 := hMA.out.call hb; have hM2 : Aside (Mem w w' [] [(g, cs)]) := HM2; clear HM2 hb)
        | (refine wpList_store (b := g) (off := i * 2) (cs := cs) (vs := [.int .i16 z.1, .int .i16 z.2]) hM2.out 0 rfl rfl rfl rfl rfl rfl h47.out rfl (Nat.ble_eq_true_of_le (by have := B.out.2.1; simp only [List.length_cons, List.length_nil]; omega)) ?_; intro w3 hM3; have hM4 : Aside (Mem w w3 [] [(g, splice cs (i * 2) [.int .i16 z.1, .int .i16 z.2])]) := hM3; clear hM3))
      obtain ⟨hik, hl, htk⟩ := B.out
      go_roundg (gk - 1)
      · refine ⟨i + 1, _, ?_, by omega, ?_, hM4.out, ?_⟩
        · first
            | (congr 1; done)
            | (congr 1; have := G.out.2; unfold wrap64; omega)
        · rw [splice_length]; exact hl
        · have e := splice_takeR cs [.int .i16 z.1, .int .i16 z.2] (i * 2) (by simp only [List.length_cons, List.length_nil]; omega)
          simp only [List.length_cons, List.length_nil] at e
          rw [flatten_take (rM_get P0.out), ← htk, show ((i + 1) * 2) = i * 2 + (0 + 1 + 1) by omega]; exact e
      · omega
    · have hi' : ¬ ((i : Int) < (zs.length : Int)) := by omega
      obtain ⟨hik, hl, htk⟩ := B.out
      have hie : i = zs.length := by omega
      clear hmk M0
      go_wp2_with fail
      simp [bodyPost, results, Try.results9, go_sem]
      have hcs : cs = (rM zs).flatten := by
        rw [hie, List.take_of_length_le (by omega), List.take_of_length_le (by rw [rM_len]; omega)] at htk
        exact htk
      rw [← hcs]; exact hMA.out
--## d
theorem toMarkSB (v : Value) (zs : List (Int × Int)) (w : World) (hP : Rls 2 w v (rM zs)) (hn : zs.length ≤ 1048576) :
    Calls Try.prog 9 #[v] w (fun e w' => ∃ x, e = .returned x ∧ Rls 2 w' x (rM zs) ∧ Below w.heap.size w w') :=
  (toMarkSA v zs w hP hn).mono fun e w' ⟨he, hM⟩ => by
    have hx := rls_flat (rs := rM zs) rM_row hM (List.mem_singleton.2 rfl)
    rw [rM_len] at hx
    exact ⟨_, he, hx, hM.below⟩
--## d
set_option maxHeartbeats 400000 in
theorem szMarkSA (v : Value) (zs : List (Int × Int)) (L : Int) (w : World) (hP : Rls 2 w v (rM zs)) (hc : zs.length < 2 ^ 63) (hL : 0 ≤ L ∧ L ≤ 1048576) :
    Calls Try.prog 6 #[v, .int .i64 L] w (Gives (fun v => v = .int .i64 (if (zs.length : Int) ≤ L then L - zs.length else -1)) w) := by
  obtain ⟨a, c, rfl, _⟩ := hP
  rw [rM_len]
  by_cases h : (zs.length : Int) ≤ L
  · rw [if_pos h]
    have h1 : ¬ (L - (zs.length : Int) < 0) := by omega
    have h2 : (wrap64 (L - (zs.length : Int))) = L - (zs.length : Int) := by unfold wrap64; omega
    go_enter Try.func6, Try.ntmps6
    go_wp2_with fail
    all_goals
      simp [bodyPost, results, Try.results6, go_sem]
    exact ⟨_, rfl, rfl, Below.refl _ _⟩
  · rw [if_neg h]
    have h1 : (L - (zs.length : Int) < 0) := by omega
    have h2 : (wrap64 (L - (zs.length : Int))) = L - (zs.length : Int) := by unfold wrap64; omega
    go_enter Try.func6, Try.ntmps6
    go_wp2_with fail
    all_goals
      simp [bodyPost, results, Try.results6, go_sem]
    exact ⟨_, rfl, rfl, Below.refl _ _⟩
--## d
end Go.Proofs.Ytbhbdpcefgledaa
