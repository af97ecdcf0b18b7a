/- Contracts: the sides of a loop, the filling of a loop (program). -/
import Derived.Test.YtbhbdpcefgledaaFilB
import Derived.StillTailTactics
namespace Go.Proofs.Ytbhbdpcefgledaa
--## d
open Go.Inv
--## d
open Go.ChangeShapes Go.WideShapes Go.ChangeAt Go.RowKit Go.Flo Go.Mem
set_option linter.unusedSimpArgs false
set_option linter.unusedVariables false
set_option maxRecDepth 20000
--## d
set_option maxHeartbeats 4000000 in
theorem sidesOfI (v : Value) (ms : List (Int × Int)) (w : World) (hP : Rls 2 w v (rM ms)) (hn : ms.length ≤ 16) :
    Calls Try.prog 62 #[v] w (fun e w' => e = .returned (.slice (some ⟨w.heap.size, 0, none⟩) ms.length ms.length) ∧ Mem w w' [] [(w.heap.size, (rK (sidesL ms)).flatten)]) := by
  have hP' : Aside (Rls 2 w v (rM ms)) := hP
  obtain ⟨a, c, rfl, _⟩ := hP
  obtain ⟨g, hg⟩ : ∃ g, g = w.heap.size := ⟨_, rfl⟩
  have hmk := makeStrokeS ms.length (by omega) w
  rw [← hg] at hmk ⊢
  rw [rM_len] at *
  have G : Aside (g = w.heap.size ∧ ms.length ≤ 16) := ⟨hg, hn⟩
  have hM0 := (Mem.start w).alloc (madeCells #[.int .i16 0, .int .i16 0, .int .i16 0, .int .i16 0, .int .i8 0] (ms.length * 5)) 70
  rw [← hg] at hM0
  have M0 : Aside (Mem w (w.alloc (.cells (madeCells #[.int .i16 0, .int .i16 0, .int .i16 0, .int .i16 0, .int .i8 0] (ms.length * 5)) 70)) [] [(g, (madeCells #[.int .i16 0, .int .i16 0, .int .i16 0, .int .i16 0, .int .i8 0] (ms.length * 5)).toList)]) := hM0
  clear hM0 hg hn
  have h47 : Aside ((Try.prog.info? 70).map (·.size) = some 5) := (by kernel_rfl : (Try.prog.info? 70).map (·.size) = some 5)
  go_enter Try.func62, Try.ntmps62
  go_wp2_with fail
  go_loopg [11] ms.length (fun k s4 wr => ∃ (i : Nat) (cs : List Value), s4 = .int .i64 i ∧ i + k = ms.length ∧ cs.length = ms.length * 5 ∧ Mem w wr [] [(g, cs)] ∧ cs.take (i * 5) = ((rK (sidesL ms)).take i).flatten)
  · exact ⟨0, _, rfl, by omega, by simp [size_madeCells], M0.out, rfl⟩
  · obtain ⟨i, cs, rfl, hik, hl, HM, htk⟩ := hrel
    have B : Aside (i + gk = ms.length ∧ cs.length = ms.length * 5 ∧ cs.take (i * 5) = ((rK (sidesL ms)).take i).flatten) := ⟨hik, hl, htk⟩
    have hMA : Aside (Mem w wr [] [(g, cs)]) := HM
    by_cases hi : i < ms.length
    · obtain ⟨m, hm⟩ : ∃ m, ms[i]? = some m := ⟨ms[i], List.getElem?_eq_getElem hi⟩
      obtain ⟨j, hj⟩ : ∃ j, (i + 1) % ms.length = j := ⟨_, rfl⟩
      have hjl : j < ms.length := by rw [← hj]; exact Nat.mod_lt _ (by omega)
      obtain ⟨o, ho⟩ : ∃ o, ms[j]? = some o := ⟨ms[j], List.getElem?_eq_getElem hjl⟩
      obtain ⟨b, c', e0, hbl, hcells⟩ := (hP'.out.below HM.below).at (rM_get hm)
      obtain ⟨b2, c2, e2, hbl2, hcells2⟩ := (hP'.out.below HM.below).at (rM_get ho)
      rw [rM_len] at e0 e2
      cases e0
      cases e2
      have hi' : (i : Int) < (ms.length : Int) := by omega
      have hjl' : (j : Int) < (ms.length : Int) := by omega
      have hj0 : (0 : Int) ≤ (j : Int) := Int.natCast_nonneg _
      have hi0 : (0 : Int) ≤ (i : Int) := Int.natCast_nonneg _
      have hn16 : (ms.length : Int) ≤ 16 := by have := G.out.2; omega
      have hmod : Int.tmod ((i : Int) + 1) (ms.length : Int) = (j : Int) := by rw [← hj, Int.natCast_emod, Int.natCast_add]; exact Int.tmod_eq_emod_of_nonneg (by omega)
      have C : Aside ((b.add (i * 2)).block < wr.heap.size ∧ ∀ k x, ([.int .i16 m.1, .int .i16 m.2] : List Value)[k]? = some x → wr.cell? ((b.add (i * 2)).add k) = some x) := ⟨hbl, hcells⟩
      have C2 : Aside ((b.add (j * 2)).block < wr.heap.size ∧ ∀ k x, ([.int .i16 o.1, .int .i16 o.2] : List Value)[k]? = some x → wr.cell? ((b.add (j * 2)).add k) = some x) := ⟨hbl2, hcells2⟩
      have HO : Aside (ms[j]? = some o) := ho
      have P0 : Aside ((sidesL ms)[i]? = some (m.1, m.2, o.1, o.2, 0)) := sidesL_get hm (by rw [hj]; exact ho)
      clear hcells hbl hcells2 hbl2 hm ho hik hl htk hmk hj
      go_wp2_with (first
        | (refine wpList_idxR rfl rfl (by kernel_rfl) (by kernel_rfl) rfl rfl (Int.natCast_nonneg _) hi' ?_; simp only [Int.toNat_natCast, Addr.add_mid, Nat.zero_add])
        | (refine wpList_rowR rfl rfl (n := 2) (by kernel_rfl) rfl rfl C.out.2 ?_)
        | (refine Mem.wpList_alloc HM rfl rfl (fun _ => by kernel_rfl) (v := mk 0 0) rfl ?_; clear HM; intro p5 W5 hb5 HMb)
        | (refine wpList_store (b := p5) (off := 0) (cs := _) (vs := [.int .i16 m.1, .int .i16 m.2]) HMb 0 rfl rfl rfl rfl rfl rfl (by kernel_rfl) rfl rfl ?_; clear HMb; intro w3 HMc; have HM3 : Aside (Mem w w3 [] [(p5, [.int .i16 m.1, .int .i16 m.2]), (g, cs)]) := HMc; clear HMc))
      obtain ⟨q1, _⟩ := Mem.cellIn HM3.out (.head _) 0 _ rfl
      obtain ⟨q2, _⟩ := Mem.cellIn HM3.out (.head _) 1 _ rfl
      obtain ⟨b3, c3, e3, hbl3, hcells3⟩ := (hP'.out.below HM3.out.below).at (rM_get HO.out)
      rw [rM_len] at e3
      cases e3
      have q3 := hcells3 0 _ rfl
      have q4 := hcells3 1 _ rfl
      have hn0 : (0 : Int) < (ms.length : Int) := by omega
      have hne : ¬ ((ms.length : Int) = 0) := by omega
      have hnil : ¬ (ms = []) := by rintro rfl; simp at hi
      have hmod2 : (IntKind.i64.wrap ((i : Int) + 1)).tmod (ms.length : Int) = (j : Int) := by rw [IntKind.wrap_i64, show (((i : Int) + 1 + 9223372036854775808) % 18446744073709551616 - 9223372036854775808) = (i : Int) + 1 by omega]; exact hmod
      have q3 : w3.cell? (b.add (j * 2)) = some (.int .i16 o.1) := q3
      have q4 : w3.cell? ⟨(b.add (j * 2)).block, (b.add (j * 2)).off + 1, none⟩ = some (.int .i16 o.2) := q4
      clear hcells3 hbl3
      go_still_tail 12, (by kernel_rfl)
      have HM4 : Aside (Mem w w3.drew [] [(p5, [.int .i16 m.1, .int .i16 m.2]), (g, cs)]) := HM3.out.drew
      change wpList _ _ _ _ _ w3.drew
      clear q1 q2 q3 q4
      generalize w3.drew = w4 at *
      go_wp2_with (first
        | (refine wpList_idxR rfl rfl (by kernel_rfl) (by kernel_rfl) rfl rfl (Int.natCast_nonneg _) hi' ?_; simp only [Int.toNat_natCast, Addr.add_mid, Nat.zero_add])
        | (refine wpList_store (b := g) (off := i * 5) (cs := cs) (vs := [.int .i16 m.1, .int .i16 m.2, .int .i16 o.1, .int .i16 o.2, .int .i8 0]) HM4.out 1 rfl rfl rfl rfl rfl rfl h47.out rfl (Nat.ble_eq_true_of_le (by have := B.out.2.1; simp only [List.length_cons, List.length_nil]; omega)) ?_; intro w5 hM5; have HM5 : Aside (Mem w w5 [] [(p5, [.int .i16 m.1, .int .i16 m.2]), (g, splice cs (i * 5) [.int .i16 m.1, .int .i16 m.2, .int .i16 o.1, .int .i16 o.2, .int .i8 0])]) := hM5; clear hM5))
      obtain ⟨hik, hl, htk⟩ := B.out
      go_roundg (gk - 1)
      · refine ⟨i + 1, _, ?_, by omega, ?_, Mem.tail2 HM5.out, ?_⟩
        · first
            | (congr 1; done)
            | (congr 1; have := G.out.2; unfold wrap64; omega)
        · rw [splice_length]; exact hl
        · have e := splice_takeR cs [.int .i16 m.1, .int .i16 m.2, .int .i16 o.1, .int .i16 o.2, .int .i8 0] (i * 5) (by simp only [List.length_cons, List.length_nil]; omega)
          simp only [List.length_cons, List.length_nil] at e
          rw [flatten_take (rK_get P0.out), ← htk, show ((i + 1) * 5) = i * 5 + (0 + 1 + 1 + 1 + 1 + 1) by omega]; exact e
      · omega
    · have hi' : ¬ ((i : Int) < (ms.length : Int)) := by omega
      obtain ⟨hik, hl, htk⟩ := B.out
      have hie : i = ms.length := by omega
      clear hmk M0
      go_wp2_with fail
      simp [bodyPost, results, Try.results62, go_sem]
      have hcs : cs = (rK (sidesL ms)).flatten := by
        rw [hie, List.take_of_length_le (by omega), List.take_of_length_le (by rw [rK_len, sidesL_len]; omega)] at htk
        exact htk
      rw [← hcs]; exact hMA.out
--## d
end Go.Proofs.Ytbhbdpcefgledaa
