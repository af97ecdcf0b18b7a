/- Contracts: the code of an order of strokes (both sides). -/
import Derived.Test.YtpaangcbcknhlaaWayB
namespace Go.Proofs.Ytpaangcbcknhlaa
--## d
open Go.RowKit Go.Mem
set_option linter.unusedSimpArgs false
set_option linter.unusedVariables false
set_option maxRecDepth 20000
--## d
theorem codeK_cases (ss : List S5) (ms : List (Int × Int)) : codeK ss ms = 0 ∨ codeK ss ms = 1 ∨ codeK ss ms = 3 := by
  unfold codeK
  split
  · split <;> simp
  · simp
--## d
set_option maxHeartbeats 4000000 in
theorem checkOrderI (v x y : Value) (ss : List S5) (os : List Int) (ts : List Bool) (p : Int × Int) (w : World) (hP : Rls 5 w v (rK ss)) (hO : Rls 1 w x (rJ os)) (hT : Rls 1 w y (rB ts)) (hn : ss.length ≤ 1048576) (hwf : ∀ s ∈ ss, wfK s) (hno : os.length ≤ 1048576) (hnt : ts.length ≤ 1048576) :
    Calls Try.prog 104 #[v, x, y, mk p.1 p.2] w (Gives (fun r => r = .int .i64 (codeO ss os ts p)) w) := by
  have A : Aside (Rls 5 w v (rK ss) ∧ Rls 1 w x (rJ os) ∧ Rls 1 w y (rB ts) ∧ ss.length ≤ 1048576 ∧ (∀ s ∈ ss, wfK s) ∧ os.length ≤ 1048576 ∧ ts.length ≤ 1048576) := ⟨hP, hO, hT, hn, hwf, hno, hnt⟩
  obtain ⟨a, c, rfl, _⟩ := hP
  obtain ⟨a2, c2, rfl, _⟩ := hO
  obtain ⟨a3, c3, rfl, _⟩ := hT
  rw [rK_len, rJ_len, rB_len] at *
  clear hwf hno hnt hn
  have HKK : Aside (codeO ss os ts p = if codeK ss [p] = 0 then (if os.length = ss.length ∧ ts.length = ss.length ∧ goodO ss.length os = true then 0 else 2) else codeK ss [p]) := rfl
  rcases codeK_cases ss [p] with hk | hk | hk
  · have HK : Aside (codeK ss [p] = 0) := hk
    rw [hk, if_pos rfl] at HKK
    clear hk
    cases hq : (goodO ss.length os && decide (os.length = ss.length))
    · have HQ : Aside ((goodO ss.length os && decide (os.length = ss.length)) = false) := hq
      clear hq
      go_enter Try.func104, Try.ntmps104
      go_wp2_with (first | (go_at_call 135; refine (checkStrokesI _ _ ss [p] _ (A.out.1.below (below_alloc (below_alloc (Below.refl _ _)))) (rls_one (by simp) (by simp [go_sem]) (by simp [go_sem])) A.out.2.2.2.1 (by simp) A.out.2.2.2.2.1).mono ?_; rintro e w' ⟨_, rfl, rfl, hb⟩; rw [HK.out]; obtain ⟨hc, hf⟩ := bcell hb; (try simp at hc hf); have hs := hb.size; (try simp at hs); have HB1 := Lib.hid hb; clear hb hs) | (go_at_call 140; refine (isOrderI _ os ss.length _ (A.out.2.1.below (below_step HB1.out (below_alloc (below_alloc (Below.refl _ _))))) A.out.2.2.2.2.2.1 A.out.2.2.2.1).mono ?_; rintro e w2 ⟨_, rfl, rfl, hb⟩; rw [HQ.out]; have HB2 := Lib.hid hb; clear hb))
      simp [bodyPost, results, Try.results104, go_sem]
      exact ⟨_, rfl, by rw [HKK.out, if_neg (fun h => by have := HQ.out; simp [h.1, h.2.2] at this)], below_step HB2.out (below_step HB1.out (below_alloc (below_alloc (Below.refl _ _))))⟩
    · have HQ : Aside ((goodO ss.length os && decide (os.length = ss.length)) = true) := hq
      clear hq
      by_cases ht : (ts.length : Int) = (ss.length : Int)
      · have htf : (!((ts.length : Int) == (ss.length : Int))) = false := by simp [ht]
        go_enter Try.func104, Try.ntmps104
        go_wp2_with (first | (go_at_call 135; refine (checkStrokesI _ _ ss [p] _ (A.out.1.below (below_alloc (below_alloc (Below.refl _ _)))) (rls_one (by simp) (by simp [go_sem]) (by simp [go_sem])) A.out.2.2.2.1 (by simp) A.out.2.2.2.2.1).mono ?_; rintro e w' ⟨_, rfl, rfl, hb⟩; rw [HK.out]; obtain ⟨hc, hf⟩ := bcell hb; (try simp at hc hf); have hs := hb.size; (try simp at hs); have HB1 := Lib.hid hb; clear hb hs) | (go_at_call 140; refine (isOrderI _ os ss.length _ (A.out.2.1.below (below_step HB1.out (below_alloc (below_alloc (Below.refl _ _))))) A.out.2.2.2.2.2.1 A.out.2.2.2.1).mono ?_; rintro e w2 ⟨_, rfl, rfl, hb⟩; rw [HQ.out]; have HB2 := Lib.hid hb; clear hb))
        all_goals
          simp [bodyPost, results, Try.results104, go_sem]
          exact ⟨_, rfl, by (have h3 := HQ.out; simp at h3; rw [HKK.out]; first | (rw [if_pos ⟨h3.2, (by omega), h3.1⟩]) | (exfalso; simp_all)), below_step HB2.out (below_step HB1.out (below_alloc (below_alloc (Below.refl _ _))))⟩
      · go_enter Try.func104, Try.ntmps104
        go_wp2_with (first | (go_at_call 135; refine (checkStrokesI _ _ ss [p] _ (A.out.1.below (below_alloc (below_alloc (Below.refl _ _)))) (rls_one (by simp) (by simp [go_sem]) (by simp [go_sem])) A.out.2.2.2.1 (by simp) A.out.2.2.2.2.1).mono ?_; rintro e w' ⟨_, rfl, rfl, hb⟩; rw [HK.out]; obtain ⟨hc, hf⟩ := bcell hb; (try simp at hc hf); have hs := hb.size; (try simp at hs); have HB1 := Lib.hid hb; clear hb hs) | (go_at_call 140; refine (isOrderI _ os ss.length _ (A.out.2.1.below (below_step HB1.out (below_alloc (below_alloc (Below.refl _ _))))) A.out.2.2.2.2.2.1 A.out.2.2.2.1).mono ?_; rintro e w2 ⟨_, rfl, rfl, hb⟩; rw [HQ.out]; have HB2 := Lib.hid hb; clear hb))
        all_goals
          simp [bodyPost, results, Try.results104, go_sem]
          exact ⟨_, rfl, by rw [HKK.out]; first | (rw [if_neg (fun h => by omega)]) | (exfalso; simp_all), below_step HB2.out (below_step HB1.out (below_alloc (below_alloc (Below.refl _ _))))⟩
  · have HK : Aside (codeK ss [p] = 1) := hk
    rw [hk, if_neg (by decide)] at HKK
    clear hk
    go_enter Try.func104, Try.ntmps104
    go_wp2_with (go_at_call 135; refine (checkStrokesI _ _ ss [p] _ (A.out.1.below (below_alloc (below_alloc (Below.refl _ _)))) (rls_one (by simp) (by simp [go_sem]) (by simp [go_sem])) A.out.2.2.2.1 (by simp) A.out.2.2.2.2.1).mono ?_; rintro e w' ⟨_, rfl, rfl, hb⟩; rw [HK.out]; obtain ⟨hc, hf⟩ := bcell hb; (try simp at hc hf); have hs := hb.size; (try simp at hs); have HB1 := Lib.hid hb; clear hb hs)
    simp [bodyPost, results, Try.results104, go_sem]
    exact ⟨_, rfl, by rw [HKK.out], below_step HB1.out (below_alloc (below_alloc (Below.refl _ _)))⟩
  · have HK : Aside (codeK ss [p] = 3) := hk
    rw [hk, if_neg (by decide)] at HKK
    clear hk
    go_enter Try.func104, Try.ntmps104
    go_wp2_with (go_at_call 135; refine (checkStrokesI _ _ ss [p] _ (A.out.1.below (below_alloc (below_alloc (Below.refl _ _)))) (rls_one (by simp) (by simp [go_sem]) (by simp [go_sem])) A.out.2.2.2.1 (by simp) A.out.2.2.2.2.1).mono ?_; rintro e w' ⟨_, rfl, rfl, hb⟩; rw [HK.out]; obtain ⟨hc, hf⟩ := bcell hb; (try simp at hc hf); have hs := hb.size; (try simp at hs); have HB1 := Lib.hid hb; clear hb hs)
    simp [bodyPost, results, Try.results104, go_sem]
    exact ⟨_, rfl, by rw [HKK.out], below_step HB1.out (below_alloc (below_alloc (Below.refl _ _)))⟩
--## d
set_option maxHeartbeats 4000000 in
theorem l06OrderS (v x y : Value) (ss : List S5) (os : List Int) (ts : List Bool) (p : Int × Int) (w : World) (hP : Rls 5 w v (rK ss)) (hO : Rls 1 w x (rJ os)) (hT : Rls 1 w y (rB ts)) (hn : ss.length ≤ 1048576) (hwf : ∀ s ∈ ss, wfK s) (hno : os.length ≤ 1048576) (hnt : ts.length ≤ 1048576) (hp : I16 p.1 ∧ I16 p.2) :
    Calls Try.prog 102 #[v, x, y, mk p.1 p.2] w (Gives (fun r => r = .int .i64 (codeO ss os ts p)) w) := by
  have A : Aside (Rls 5 w v (rK ss) ∧ Rls 1 w x (rJ os) ∧ Rls 1 w y (rB ts) ∧ ss.length ≤ 1048576 ∧ (∀ s ∈ ss, wfK s) ∧ os.length ≤ 1048576 ∧ ts.length ≤ 1048576) := ⟨hP, hO, hT, hn, hwf, hno, hnt⟩
  have HM : Aside (∀ w, Calls Try.prog 131 #[mk p.1 p.2] w (Gives (isB (okM p.1 p.2)) w)) := l06MarkA p.1 p.2 hp.1 hp.2
  have hP' := hP
  have hO' := hO
  obtain ⟨a, c, rfl, _⟩ := hP
  obtain ⟨a2, c2, rfl, _⟩ := hO
  obtain ⟨a3, c3, rfl, _⟩ := hT
  rw [rK_len, rJ_len, rB_len] at *
  clear hwf hp
  go_enter Try.func102, Try.ntmps102
  go_wp2_with fail
  go_loopg [9] ss.length (fun k s9 wr => ∃ (i : Nat), s9 = .int .i64 i ∧ i + k = ss.length ∧ allK (ss.take i) = true ∧ Below (w.heap.size + 1) (w.alloc (.cells #[.int .i16 p.1, .int .i16 p.2] 63)) wr)
  · exact ⟨0, rfl, by omega, rfl, Below.refl _ _⟩
  · obtain ⟨i, rfl, hik, hr, HBa⟩ := hrel
    have HB : Below w.heap.size w wr := ((below_alloc (Below.refl _ _)).trans (HBa.mono (by omega)))
    have B : Aside (i + gk = ss.length ∧ allK (ss.take i) = true ∧ Below w.heap.size w wr ∧ Below (w.heap.size + 1) (w.alloc (.cells #[.int .i16 p.1, .int .i16 p.2] 63)) wr) := ⟨hik, hr, HB, HBa⟩
    by_cases hi : i < ss.length
    · obtain ⟨s, hs⟩ : ∃ s, ss[i]? = some s := ⟨ss[i], List.getElem?_eq_getElem hi⟩
      obtain ⟨b, c', e0, hbl, hcells⟩ := (hP'.below HB).at (rK_get hs)
      rw [rK_len] at e0
      cases e0
      have hi' : (i : Int) < (ss.length : Int) := by omega
      have P0 : Aside (ss[i]? = some s) := hs
      have H1 : Aside (Calls Try.prog 96 #[.pointer (some (b.add (i * 5)))] wr (Gives (isB (okK s)) wr)) := l06OkP (b.add (i * 5)) s.1 s.2.1 s.2.2.1 s.2.2.2.1 s.2.2.2.2 wr (A.out.2.2.2.2.1 s (List.mem_of_getElem? hs)).1 (A.out.2.2.2.2.1 s (List.mem_of_getElem? hs)).2.1 (A.out.2.2.2.2.1 s (List.mem_of_getElem? hs)).2.2.1 (A.out.2.2.2.2.1 s (List.mem_of_getElem? hs)).2.2.2.1 (hcells 0 _ rfl) (hcells 1 _ rfl) (hcells 2 _ rfl) (hcells 3 _ rfl) (hcells 4 _ rfl) hbl
      clear hcells hbl hP' hO' hs hik hr HB HBa
      cases hq : okK s
      all_goals
        rw [hq] at H1
        have HQ : Aside (okK s = _) := hq
        clear hq
        go_wp2_with (first
          | (refine wpList_idxR rfl rfl (by kernel_rfl) (by kernel_rfl) rfl rfl (Int.natCast_nonneg _) hi' ?_; simp only [Int.toNat_natCast])
          | (go_at_call 96; refine H1.out.mono ?_; rintro e w' ⟨_, rfl, rfl, hb⟩; have HB1 := Lib.hid hb; clear hb))
      · simp [bodyPost, results, Try.results102, go_sem]
        exact ⟨_, rfl, by rw [codeO, codeK, allK_bad P0.out HQ.out]; simp, below_step HB1.out B.out.2.2.1⟩
      · obtain ⟨hik, hr, _, HBa⟩ := B.out
        go_roundg (gk - 1)
        · refine ⟨i + 1, ?_, by omega, by rw [allK_take P0.out hr]; exact HQ.out, HBa.trans (HB1.out.mono (by have := HBa.size; simpa using this))⟩
          first
            | (congr 1; done)
            | (congr 1; unfold wrap64; omega)
        · omega
    · have hi' : ¬ ((i : Int) < (ss.length : Int)) := by omega
      have hie : i = ss.length := by omega
      have HL : allK ss = true := by rw [hie, List.take_of_length_le (Nat.le_refl _)] at hr; exact hr
      have D : Aside (allK ss = true ∧ Below w.heap.size w wr) := ⟨HL, HB⟩
      obtain ⟨hcc, hff⟩ := bcell (W := (w.alloc (.cells #[.int .i16 p.1, .int .i16 p.2] 63))) (w1 := wr) (by simpa using HBa)
      simp at hcc hff
      clear hP' hik hr hie HL HB HBa B
      cases hq : okM p.1 p.2
      · rw [hq] at HM
        have HQ : Aside (okM p.1 p.2 = false) := hq
        clear hq
        go_wp2_with (go_at_call 131; refine (HM.out _).mono ?_; rintro e w' ⟨_, rfl, rfl, hb⟩; have HB1 := Lib.hid hb; clear hb)
        simp [bodyPost, results, Try.results102, go_sem]
        exact ⟨_, rfl, by rw [codeO, codeK, allM_one, HQ.out]; simp, below_step HB1.out D.out.2⟩
      · rw [hq] at HM
        have HQ : Aside (allM [p] = true) := by rw [← hq]; exact allM_one p.1 p.2
        clear hq
        by_cases h60 : (60 : Int) < (ss.length : Int)
        · go_wp2_with (go_at_call 131; refine (HM.out _).mono ?_; rintro e w' ⟨_, rfl, rfl, hb⟩; have HB1 := Lib.hid hb; clear hb)
          simp [bodyPost, results, Try.results102, go_sem]
          exact ⟨_, rfl, by (have hz : codeK ss [p] = 3 := by (rw [codeK, HQ.out, D.out.1, if_pos (by rfl), if_pos (by omega)])); rw [codeO, hz]; rfl, below_step HB1.out D.out.2⟩
        · have HCO : Aside (codeO ss os ts p = (if os.length = ss.length ∧ ts.length = ss.length ∧ goodO ss.length os = true then 0 else 2)) := by
            have hz : codeK ss [p] = 0 := by rw [codeK, HQ.out, D.out.1, if_pos (by rfl), if_neg (by omega)]
            show codeO ss os ts p = _
            rw [codeO, hz, if_pos rfl]
          by_cases hlo : (os.length : Int) = (ss.length : Int)
          · by_cases hlt : (ts.length : Int) = (ss.length : Int)
            · have hx1 : (!((os.length : Int) == (ss.length : Int))) = false := by simp [hlo]
              have hx2 : (!((ts.length : Int) == (ss.length : Int))) = false := by simp [hlt]
              go_wp2_with (go_at_call 131; refine (HM.out _).mono ?_; rintro e w' ⟨_, rfl, rfl, hb⟩; have HB1 := Lib.hid hb; clear hb)
              have D2 : Aside (Below w.heap.size w w') := below_step HB1.out D.out.2
              have hO2 := hO'.below D2.out
              have HLL : Aside (os.length = ss.length ∧ ts.length = ss.length) := ⟨by omega, by omega⟩
              clear hcc hff hO' hx1 hx2 hlo hlt
              go_loopg [10] os.length (fun k s10 wr => ∃ (i : Nat), s10 = .int .i64 i ∧ i + k = os.length ∧ goodO ss.length (os.take i) = true ∧ Below w'.heap.size w' wr)
              · exact ⟨0, rfl, by omega, goodO_nil _, Below.refl _ _⟩
              · obtain ⟨i, rfl, hik, hr, HB⟩ := hrel
                have B2 : Aside (i + gk = os.length ∧ goodO ss.length (os.take i) = true ∧ Below w'.heap.size w' wr) := ⟨hik, hr, HB⟩
                by_cases hi2 : i < os.length
                · obtain ⟨z, hz⟩ : ∃ z, os[i]? = some z := ⟨os[i], List.getElem?_eq_getElem hi2⟩
                  obtain ⟨b, c', e0, hbl, hcells⟩ := (hO2.below HB).at (rJ_get hz)
                  rw [rJ_len] at e0
                  cases e0
                  have hi' : (i : Int) < (os.length : Int) := by omega
                  have hi0 : (0 : Int) ≤ (i : Int) := Int.natCast_nonneg _
                  have hc0 : wr.cell? (b.add i) = some (.int .i64 z) := by have := hcells 0 _ rfl; rw [Nat.mul_one] at this; exact this
                  have P0 : Aside (os[i]? = some z ∧ (b.add i).block < wr.heap.size ∧ wr.cell? (b.add i) = some (.int .i64 z)) := ⟨hz, by rw [Nat.mul_one] at hbl; exact hbl, hc0⟩
                  have hO3 : Aside (Rls 1 wr (.slice (some b) os.length c2) (rJ os)) := by have := hO2.below HB; exact this
                  clear hcells hbl hz hik hr HB hO2
                  have HN : Aside (∀ w, Calls Try.prog 109 #[.int .i64 z, .int .i64 0, .int .i64 ((ss.length : Int) - 1)] w (Same (isB (decide (0 ≤ z) && decide (z ≤ (ss.length : Int) - 1))) w)) := l00InA z 0 _
                  cases hq : (decide (0 ≤ z) && decide (z ≤ (ss.length : Int) - 1))
                  · rw [hq] at HN
                    have HR : Aside ((decide (0 ≤ z) && decide (z ≤ (ss.length : Int) - 1)) = false) := hq
                    clear hq
                    go_wp2_with (first
                      | (refine wpList_idxR rfl rfl (by kernel_rfl) (by kernel_rfl) rfl rfl (Int.natCast_nonneg _) hi' ?_; simp only [Int.toNat_natCast, Nat.mul_one])
                      | (go_at_call 109; refine (HN.out _).mono ?_; rintro e w3 ⟨_, rfl, rfl, rfl⟩))
                    simp [bodyPost, results, Try.results102, go_sem]
                    exact ⟨_, rfl, by (have h3 := HR.out; have := goodO_bad P0.out.1 B2.out.2.1 (by simp at h3 ⊢; omega); rw [HCO.out, if_neg (fun h => by rw [this] at h; cases h.2.2)]), below_step B2.out.2.2 D2.out⟩
                  · rw [hq] at HN
                    have HR : Aside ((decide (0 ≤ z) && decide (z ≤ (ss.length : Int) - 1)) = true) := hq
                    clear hq
                    go_wp2_with (first
                      | (refine wpList_idxR rfl rfl (by kernel_rfl) (by kernel_rfl) rfl rfl (Int.natCast_nonneg _) hi' ?_; simp only [Int.toNat_natCast, Nat.mul_one])
                      | (go_at_call 109; refine (HN.out _).mono ?_; rintro e w3 ⟨_, rfl, rfl, rfl⟩))
                    obtain ⟨gko, rfl⟩ : ∃ q : Nat, q = gk := ⟨_, rfl⟩
                    obtain ⟨wo, rfl⟩ : ∃ q : World, q = wr := ⟨_, rfl⟩
                    clear hc0
                    go_loopg [11] i (fun k s11 wr => ∃ (j : Nat), s11 = .int .i64 j ∧ j + k = i ∧ (os.take j).contains z = false ∧ Below wo.heap.size wo wr)
                    · exact ⟨0, rfl, by omega, by simp, Below.refl _ _⟩
                    · obtain ⟨j, rfl, hjk, hr, HB⟩ := hrel
                      have B3 : Aside (j + gk = i ∧ (os.take j).contains z = false ∧ Below wo.heap.size wo wr) := ⟨hjk, hr, HB⟩
                      by_cases hj : j < i
                      · obtain ⟨y, hy⟩ : ∃ y, os[j]? = some y := ⟨os[j]'(by omega), List.getElem?_eq_getElem (by omega)⟩
                        obtain ⟨b2, c', e0, hbl, hcells⟩ := (hO3.out.below HB).at (rJ_get hy)
                        rw [rJ_len] at e0
                        cases e0
                        have hj' : (j : Int) < (i : Int) := by omega
                        have hj2 : (j : Int) < (os.length : Int) := by omega
                        have hj0 : (0 : Int) ≤ (j : Int) := Int.natCast_nonneg _
                        have P1 : Aside (os[j]? = some y) := hy
                        have hK : ∀ W, Below wr.heap.size wr W → W.cell? (b.add j) = some (.int .i64 y) ∧ W.cell? (b.add i) = some (.int .i64 z) ∧ Below wr.heap.size wr W := fun W hW =>
                          ⟨by (rw [Nat.mul_one] at hbl; rw [hW.cell hbl]; have := hcells 0 _ rfl; rw [Nat.mul_one] at this; exact this), by rw [(below_step hW HB).cell P0.out.2.1]; exact P0.out.2.2, hW⟩
                        clear hcells hbl hy hjk hr HB
                        go_wp2_with fail
                        go_region_held3 (fun W => W.cell? (b.add j) = some (.int .i64 y) ∧ W.cell? (b.add i) = some (.int .i64 z) ∧ Below wr.heap.size wr W) (first | exact hK _ (Below.refl _ _) | exact hK _ (Below.drew (Below.refl _ _)) | exact hK _ (Below.drew (And.right (And.right (by assumption)))) | go_keep) (first | fail)
                        all_goals go_wp2_with fail
                        all_goals obtain ⟨hjk, hr, HB⟩ := B3.out
                        · simp [bodyPost, results, Try.results102, go_sem]
                          have he : y = z := by simp_all
                          subst he
                          refine ⟨_, rfl, ?_, below_step (And.right (And.right (by assumption))) (below_step HB (below_step B2.out.2.2 D2.out))⟩
                          have hm : (os.take i).contains y = true := by
                            rw [List.contains_iff_mem]
                            exact List.mem_of_getElem? (i := j) (by rw [List.getElem?_take_of_lt hj]; exact P1.out)
                          have := goodO_bad P0.out.1 B2.out.2.1 (by rw [hm]; simp)
                          rw [HCO.out, if_neg (fun h => by rw [this] at h; cases h.2.2)]
                        · have he : y ≠ z := by simp_all
                          go_roundg (gk - 1)
                          · refine ⟨j + 1, ?_, by omega, ?_, below_step (And.right (And.right (by assumption))) HB⟩
                            · first
                                | (congr 1; done)
                                | (congr 1; unfold wrap64; omega)
                            · rw [take_snocZ P1.out]
                              simp at hr ⊢
                              exact ⟨hr, fun e => he e.symm⟩
                          · omega
                      · have hj' : ¬ ((j : Int) < (i : Int)) := by omega
                        have hje : j = i := by omega
                        go_wp2_with fail
                        obtain ⟨hik, hr2, HB2⟩ := B2.out
                        go_roundg (gko - 1)
                        · refine ⟨i + 1, ?_, by omega, ?_, below_step HB HB2⟩
                          · first
                              | (congr 1; done)
                              | (congr 1; unfold wrap64; omega)
                          · subst hje
                            rw [goodO_take P0.out.1 hr2, hr]
                            have h3 := HR.out
                            simp at h3 ⊢
                            omega
                        · omega
                · have hi' : ¬ ((i : Int) < (os.length : Int)) := by omega
                  clear hO2
                  go_wp2_with fail
                  simp [bodyPost, results, Try.results102, go_sem]
                  exact ⟨_, rfl, by rw [HCO.out, if_pos ⟨HLL.out.1, HLL.out.2, goodO_all (by omega) hr⟩], below_step HB D2.out⟩
            · go_wp2_with (go_at_call 131; refine (HM.out _).mono ?_; rintro e w' ⟨_, rfl, rfl, hb⟩; have HB1 := Lib.hid hb; clear hb)
              all_goals
                simp [bodyPost, results, Try.results102, go_sem]
                exact ⟨_, rfl, by rw [HCO.out]; first | (rw [if_neg (fun h => by omega)]) | (exfalso; simp_all), below_step HB1.out D.out.2⟩
          · go_wp2_with (go_at_call 131; refine (HM.out _).mono ?_; rintro e w' ⟨_, rfl, rfl, hb⟩; have HB1 := Lib.hid hb; clear hb)
            all_goals
              simp [bodyPost, results, Try.results102, go_sem]
              exact ⟨_, rfl, by rw [HCO.out]; first | (rw [if_neg (fun h => by omega)]) | (exfalso; simp_all), below_step HB1.out D.out.2⟩
--## d
end Go.Proofs.Ytpaangcbcknhlaa
