/- Contracts: strokes are clipped (the program's side). -/
import Derived.Test.YtbkcoiojcjmmlaaMrkG
namespace Go.Proofs.Ytbkcoiojcjmmlaa
open Go.RowKit Go.Mem
set_option linter.unusedSimpArgs false
set_option linter.unusedVariables false
theorem Mem.tail {w0 W : World} {r l : Blocks} {x : Nat × List Value} (h : Mem w0 W r (x :: l)) : Mem w0 W r l :=
  ⟨h.below, h.old, fun y hy => h.new y (List.mem_cons_of_mem _ hy), (List.nodup_cons.1 h.apart).2⟩
def clipCells0 (e : Int) : PP → List Value
  | none => [.int .i16 0, .int .i16 0, .int .i16 0, .int .i16 0, .int .i8 0]
  | some (A, B) => [.int .i16 A.1, .int .i16 A.2, .int .i16 B.1, .int .i16 B.2, .int .i8 e]
set_option maxRecDepth 20000 in
set_option maxHeartbeats 4000000 in
theorem ClipStrokeI_bad (a b c d e l0 l1 h0 h1 : Int) (ha : I16 a) (hb : I16 b) (hc : I16 c) (hd : I16 d) (he : I8 e) (hbad : (okS a b c d e && (okM l0 l1 && okM h0 h1)) = false) (w : World) : Calls Try.prog 23 #[st a b c d e, mk l0 l1, mk h0 h1] w (Gives (fun v => v = .tuple #[st 0 0 0 0 0, .bool false, .int .i64 1]) w) := by
  have HV : Aside (∀ w, Calls Try.prog 13 #[st a b c d e] w (Gives (isB (okS a b c d e)) w)) := ValidStrokeI a b c d e ha hb hc hd he
  have HM : allM [(l0, l1), (h0, h1)] = (okM l0 l1 && okM h0 h1) := by simp [allM]
  cases hq1 : okS a b c d e <;> cases hq2 : (okM l0 l1 && okM h0 h1)
  all_goals first
    | (exfalso; simp [hq1, hq2] at hbad; done)
    | skip
  all_goals
    rw [hq1] at HV
    rw [hq2] at HM
    clear hbad hq1 hq2
    go_enter Try.func23, Try.ntmps23
    go_wp2_with (first | (go_at_call 13; refine (HV.out _).mono ?_; rintro e w' ⟨_, rfl, rfl, hb⟩; obtain ⟨hcb, hfb⟩ := bcell hb; (try simp at hcb hfb); have hs := hb.size; (try simp at hs); have HB := Lib.hid hb; clear hb; (try (have hz0 : w.heap.size < w'.heap.size := (by omega))); (try (have hz1 : w.heap.size + 1 < w'.heap.size := (by omega))); (try (have hz2 : w.heap.size + 1 + 1 < w'.heap.size := (by omega))); (try (have hz3 : w.heap.size + 1 + 1 + 1 < w'.heap.size := (by omega))); (try (have hz4 : w.heap.size + 1 + 1 + 1 + 1 < w'.heap.size := (by omega)))) | (go_at_call 37; refine (validMarksA _ [(l0, l1), (h0, h1)] _ (rls_two (by simp) (by simp [go_sem]) (by simp [go_sem]) (by simp [go_sem]) (by simp [go_sem])) (by simp)).mono ?_; rw [HM]; rintro e w' ⟨_, rfl, rfl, hb⟩; obtain ⟨hcb, hfb⟩ := bcell hb; (try simp at hcb hfb); have hs := hb.size; (try simp at hs); have HB := Lib.hid hb; clear hb; (try (have hz0 : w.heap.size < w'.heap.size := (by omega))); (try (have hz1 : w.heap.size + 1 < w'.heap.size := (by omega))); (try (have hz2 : w.heap.size + 1 + 1 < w'.heap.size := (by omega))); (try (have hz3 : w.heap.size + 1 + 1 + 1 < w'.heap.size := (by omega))); (try (have hz4 : w.heap.size + 1 + 1 + 1 + 1 < w'.heap.size := (by omega)))))
    all_goals
      simp [bodyPost, results, Try.results23, go_sem, *]
      exact ⟨_, rfl, rfl, (by ((try simp only [Hid] at *); repeat' (first | (with_reducible exact Below.refl _ _) | (with_reducible assumption) | (with_reducible refine below_drewN ?_ _) | (with_reducible refine Below.drew ?_) | (with_reducible refine below_alloc ?_) | (with_reducible refine below_set ?_ ?_) | (refine below_step (by with_reducible assumption) ?_) | (simp; done) | (simp; omega) | omega)))⟩
set_option maxRecDepth 20000 in
set_option maxHeartbeats 4000000 in
theorem ClipStrokeI_range (a b c d e l0 l1 h0 h1 : Int) (ha : I16 a) (hb : I16 b) (hc : I16 c) (hd : I16 d) (he : I8 e) (hok : (okS a b c d e && (okM l0 l1 && okM h0 h1)) = true) (hr : (decide (h0 < l0) || decide (h1 < l1)) = true) (w : World) : Calls Try.prog 23 #[st a b c d e, mk l0 l1, mk h0 h1] w (Gives (fun v => v = .tuple #[st 0 0 0 0 0, .bool false, .int .i64 2]) w) := by
  have HV : Aside (∀ w, Calls Try.prog 13 #[st a b c d e] w (Gives (isB (okS a b c d e)) w)) := ValidStrokeI a b c d e ha hb hc hd he
  have HM : allM [(l0, l1), (h0, h1)] = (okM l0 l1 && okM h0 h1) := by simp [allM]
  have hk : okS a b c d e = true ∧ okM l0 l1 = true ∧ okM h0 h1 = true := by simpa using hok
  rw [hk.1] at HV
  rw [hk.2.1, hk.2.2] at HM
  simp only [Bool.and_self] at HM
  have hm1 : okM a b = true ∧ okM c d = true := by have := hk.1; simp [okS] at this; exact ⟨this.1.1, this.1.2⟩
  have hdb := dist_bd (okM_bd hm1.1).1 (okM_bd hm1.1).2 (okM_bd hm1.2).1 (okM_bd hm1.2).2
  obtain ⟨ms, hms, hlen⟩ : ∃ ms, marksN a b c d (distF a b c d) = ms ∧ ms.length ≤ 1001 := ⟨_, rfl, by rw [marksN_len]; omega⟩
  have HMK : Aside (∀ w, Calls Try.prog 40 #[st a b c d e] w fun e w' => ∃ g, e = .returned (.slice (some ⟨g, 0, none⟩) ms.length ms.length) ∧ Mem w w' [] [(g, (rM ms).flatten)]) := fun w => by
    have h := marksI a b c d e (okM_bd hm1.1).1 (okM_bd hm1.1).2 (okM_bd hm1.2).1 (okM_bd hm1.2).2 w
    rw [hms] at h
    have e : (distF a b c d).toNat + 1 = ms.length := by rw [← hms, marksN_len]
    rw [e] at h
    exact h
  clear hok hk hm1 hdb
  by_cases g0 : h0 < l0
  all_goals
    try (have g1 : h1 < l1 := by simpa [g0] using hr)
    clear hr HMK
    go_enter Try.func23, Try.ntmps23
    go_wp2_with (first | (go_at_call 13; refine (HV.out _).mono ?_; rintro e w' ⟨_, rfl, rfl, hb⟩; obtain ⟨hcb, hfb⟩ := bcell hb; (try simp at hcb hfb); have hs := hb.size; (try simp at hs); have HB := Lib.hid hb; clear hb; (try (have hz0 : w.heap.size < w'.heap.size := (by omega))); (try (have hz1 : w.heap.size + 1 < w'.heap.size := (by omega))); (try (have hz2 : w.heap.size + 1 + 1 < w'.heap.size := (by omega))); (try (have hz3 : w.heap.size + 1 + 1 + 1 < w'.heap.size := (by omega))); (try (have hz4 : w.heap.size + 1 + 1 + 1 + 1 < w'.heap.size := (by omega)))) | (go_at_call 37; refine (validMarksA _ [(l0, l1), (h0, h1)] _ (rls_two (by simp) (by simp [go_sem]) (by simp [go_sem]) (by simp [go_sem]) (by simp [go_sem])) (by simp)).mono ?_; rw [HM]; rintro e w' ⟨_, rfl, rfl, hb⟩; obtain ⟨hcb, hfb⟩ := bcell hb; (try simp at hcb hfb); have hs := hb.size; (try simp at hs); have HB := Lib.hid hb; clear hb; (try (have hz0 : w.heap.size < w'.heap.size := (by omega))); (try (have hz1 : w.heap.size + 1 < w'.heap.size := (by omega))); (try (have hz2 : w.heap.size + 1 + 1 < w'.heap.size := (by omega))); (try (have hz3 : w.heap.size + 1 + 1 + 1 < w'.heap.size := (by omega))); (try (have hz4 : w.heap.size + 1 + 1 + 1 + 1 < w'.heap.size := (by omega)))))
    all_goals
      simp [bodyPost, results, Try.results23, go_sem, *]
      exact ⟨_, rfl, rfl, (by ((try simp only [Hid] at *); repeat' (first | (with_reducible exact Below.refl _ _) | (with_reducible assumption) | (with_reducible refine below_drewN ?_ _) | (with_reducible refine Below.drew ?_) | (with_reducible refine below_alloc ?_) | (with_reducible refine below_set ?_ ?_) | (refine below_step (by with_reducible assumption) ?_) | (simp; done) | (simp; omega) | omega)))⟩
set_option maxRecDepth 20000 in
set_option maxHeartbeats 4000000 in
theorem ClipStrokeI_main (a b c d e l0 l1 h0 h1 : Int) (ha : I16 a) (hb : I16 b) (hc : I16 c) (hd : I16 d) (he : I8 e) (hok : (okS a b c d e && (okM l0 l1 && okM h0 h1)) = true) (hr : (decide (h0 < l0) || decide (h1 < l1)) = false) (w : World) : Calls Try.prog 23 #[st a b c d e, mk l0 l1, mk h0 h1] w (Gives (fun v => v = clipOut e (clipF (inF l0 l1 h0 h1) (marksN a b c d (distF a b c d)))) w) := by
  have HV : Aside (∀ w, Calls Try.prog 13 #[st a b c d e] w (Gives (isB (okS a b c d e)) w)) := ValidStrokeI a b c d e ha hb hc hd he
  have HM : allM [(l0, l1), (h0, h1)] = (okM l0 l1 && okM h0 h1) := by simp [allM]
  have hk : okS a b c d e = true ∧ okM l0 l1 = true ∧ okM h0 h1 = true := by simpa using hok
  rw [hk.1] at HV
  rw [hk.2.1, hk.2.2] at HM
  simp only [Bool.and_self] at HM
  have hm1 : okM a b = true ∧ okM c d = true := by have := hk.1; simp [okS] at this; exact ⟨this.1.1, this.1.2⟩
  have hdb := dist_bd (okM_bd hm1.1).1 (okM_bd hm1.1).2 (okM_bd hm1.2).1 (okM_bd hm1.2).2
  obtain ⟨ms, hms, hlen⟩ : ∃ ms, marksN a b c d (distF a b c d) = ms ∧ ms.length ≤ 1001 := ⟨_, rfl, by rw [marksN_len]; omega⟩
  have HMK : Aside (∀ w, Calls Try.prog 40 #[st a b c d e] w fun e w' => ∃ g, e = .returned (.slice (some ⟨g, 0, none⟩) ms.length ms.length) ∧ Mem w w' [] [(g, (rM ms).flatten)]) := fun w => by
    have h := marksI a b c d e (okM_bd hm1.1).1 (okM_bd hm1.1).2 (okM_bd hm1.2).1 (okM_bd hm1.2).2 w
    rw [hms] at h
    have e : (distF a b c d).toNat + 1 = ms.length := by rw [← hms, marksN_len]
    rw [e] at h
    exact h
  clear hok hk hm1 hdb
  have g0 : ¬ h0 < l0 := by simp at hr; omega
  have g1 : ¬ h1 < l1 := by simp at hr; omega
  clear hr
  rw [hms]
  go_enter Try.func23, Try.ntmps23
  go_wp2_with (first | (go_at_call 13; refine (HV.out _).mono ?_; rintro e w' ⟨_, rfl, rfl, hb⟩; obtain ⟨hcb, hfb⟩ := bcell hb; (try simp at hcb hfb); have hs := hb.size; (try simp at hs); have HB := Lib.hid hb; clear hb; (try (have hz0 : w.heap.size < w'.heap.size := (by omega))); (try (have hz1 : w.heap.size + 1 < w'.heap.size := (by omega))); (try (have hz2 : w.heap.size + 1 + 1 < w'.heap.size := (by omega))); (try (have hz3 : w.heap.size + 1 + 1 + 1 < w'.heap.size := (by omega))); (try (have hz4 : w.heap.size + 1 + 1 + 1 + 1 < w'.heap.size := (by omega)))) | (go_at_call 37; refine (validMarksA _ [(l0, l1), (h0, h1)] _ (rls_two (by simp) (by simp [go_sem]) (by simp [go_sem]) (by simp [go_sem]) (by simp [go_sem])) (by simp)).mono ?_; rw [HM]; rintro e wV ⟨_, rfl, rfl, hb⟩; obtain ⟨hcb, hfb⟩ := bcell hb; (try simp at hcb hfb); have hs := hb.size; (try simp at hs); have HB := Lib.hid hb; clear hb; (try (have hz0 : w.heap.size < wV.heap.size := (by omega))); (try (have hz1 : w.heap.size + 1 < wV.heap.size := (by omega))); (try (have hz2 : w.heap.size + 1 + 1 < wV.heap.size := (by omega))); (try (have hz3 : w.heap.size + 1 + 1 + 1 < wV.heap.size := (by omega))); (try (have hz4 : w.heap.size + 1 + 1 + 1 + 1 < wV.heap.size := (by omega))); have CW : Aside (wV.cell? ⟨w.heap.size, 4, none⟩ = some (.int .i8 e) ∧ wV.cell? ⟨w.heap.size + 1, 0, none⟩ = some (.int .i16 l0) ∧ wV.cell? ⟨w.heap.size + 1, 1, none⟩ = some (.int .i16 l1) ∧ wV.cell? ⟨w.heap.size + 1 + 1, 0, none⟩ = some (.int .i16 h0) ∧ wV.cell? ⟨w.heap.size + 1 + 1, 1, none⟩ = some (.int .i16 h1) ∧ w.heap.size + 1 + 1 + 1 < wV.heap.size ∧ Below w.heap.size w wV) := ⟨(by simp [go_sem, *]), (by simp [go_sem, *]), (by simp [go_sem, *]), (by simp [go_sem, *]), (by simp [go_sem, *]), (by omega), (by ((try simp only [Hid] at *); repeat' (first | (with_reducible exact Below.refl _ _) | (with_reducible assumption) | (with_reducible refine below_drewN ?_ _) | (with_reducible refine Below.drew ?_) | (with_reducible refine below_alloc ?_) | (with_reducible refine below_set ?_ ?_) | (refine below_step (by with_reducible assumption) ?_) | (simp; done) | (simp; omega) | omega)))⟩) | (go_at_call 40; refine (HMK.out _).mono ?_; rintro e w3 ⟨gL, rfl, hm⟩; have HM3 : Aside (Mem wV w3 [] [(wV.heap.size, [.int .i16 0, .int .i16 0, .int .i16 0, .int .i16 0, .int .i8 0]), (gL, (rM ms).flatten)]) := Mem.joinG ((Mem.start wV).alloc _ _) hm; clear hm))
  generalize hp : inF l0 l1 h0 h1 = p
  have HP : Aside (inF l0 l1 h0 h1 = p) := hp
  clear hp HV HM g0 g1
  go_loopg [10, 41] ms.length (fun k s10 s41 wr => ∃ (i : Nat), s41 = .int .i64 i ∧ i + k = ms.length ∧ s10 = .bool (clipF p (ms.take i)).isSome ∧ Mem wV wr [] [(wV.heap.size, clipCells0 e (clipF p (ms.take i))), (gL, (rM ms).flatten)])
  · exact ⟨0, rfl, by omega, rfl, HM3.out⟩
  · obtain ⟨i, rfl, hik, rfl, HMr⟩ := hrel
    have B : Aside (i + gk = ms.length ∧ ms.length ≤ 1001) := ⟨hik, hlen⟩
    have hMA : Aside (Mem wV wr [] [(wV.heap.size, clipCells0 e (clipF p (ms.take i))), (gL, (rM ms).flatten)]) := HMr
    by_cases hi : i < ms.length
    · obtain ⟨m, hm⟩ : ∃ m, ms[i]? = some m := ⟨ms[i], List.getElem?_eq_getElem hi⟩
      have hi' : (i : Int) < (ms.length : Int) := by omega
      have hi0 : (0 : Int) ≤ (i : Int) := Int.natCast_nonneg _
      have q1 := (Mem.cellIn hMA.out (by simp : (gL, (rM ms).flatten) ∈ [(wV.heap.size, clipCells0 e (clipF p (ms.take i))), (gL, (rM ms).flatten)]) (i * 2 + 0) (.int .i16 m.1) (flatten_get i rM_row (rM_get hm) 0 _ rfl)).1
      have q2 := (Mem.cellIn hMA.out (by simp : (gL, (rM ms).flatten) ∈ [(wV.heap.size, clipCells0 e (clipF p (ms.take i))), (gL, (rM ms).flatten)]) (i * 2 + 1) (.int .i16 m.2) (flatten_get i rM_row (rM_get hm) 1 _ rfl)).1
      rw [Nat.add_zero] at q1
      have hCT := clip_take (p := p) hm
      obtain ⟨d0, d1, d2, d3, d4, hsz, _⟩ := CW.out
      have hszr := hMA.out.below.size
      have p0 : wr.cell? ⟨w.heap.size, 4, none⟩ = some (.int .i8 e) := by rw [(bcell hMA.out.below).1 _ _ (by omega)]; exact d0
      have p1 : wr.cell? ⟨w.heap.size + 1, 0, none⟩ = some (.int .i16 l0) := by rw [(bcell hMA.out.below).1 _ _ (by omega)]; exact d1
      have p2 : wr.cell? ⟨w.heap.size + 1, 1, none⟩ = some (.int .i16 l1) := by rw [(bcell hMA.out.below).1 _ _ (by omega)]; exact d2
      have p3 : wr.cell? ⟨w.heap.size + 1 + 1, 0, none⟩ = some (.int .i16 h0) := by rw [(bcell hMA.out.below).1 _ _ (by omega)]; exact d3
      have p4 : wr.cell? ⟨w.heap.size + 1 + 1, 1, none⟩ = some (.int .i16 h1) := by rw [(bcell hMA.out.below).1 _ _ (by omega)]; exact d4
      have s0 : w.heap.size < wr.heap.size := by omega
      have s1 : w.heap.size + 1 < wr.heap.size := by omega
      have s2 : w.heap.size + 1 + 1 < wr.heap.size := by omega
      clear d0 d1 d2 d3 d4 hsz hszr
      have HW : Aside (∀ w, Calls Try.prog 48 #[mk m.1 m.2, mk l0 l1, mk h0 h1] w (Gives (isB (p m)) w)) := fun w => HP.out ▸ isWithinA m.1 m.2 l0 l1 h0 h1 w
      have HCT : Aside (clipF p (ms.take (i + 1)) = clipStep p (clipF p (ms.take i)) m) := hCT
      clear hik HMr hm hCT
      generalize clipF p (ms.take i) = sT at *
      cases hq : p m
      · have HQ : Aside (p m = false) := hq
        rw [hq] at HW
        clear hq
        go_wp2_with (first | (go_at_call 48; refine (HW.out _).mono ?_; rintro e w2 ⟨_, rfl, rfl, hb⟩; have hM2 : Aside (Mem wV w2 [] [(wr.heap.size, [.int .i16 m.1, .int .i16 m.2]), (wV.heap.size, clipCells0 e sT), (gL, (rM ms).flatten)]) := (hMA.out.alloc _ _).call hb; obtain ⟨hcb2, hfb2⟩ := bcell hb; simp at hcb2 hfb2; have hs2 := hb.size; simp at hs2; clear hb; (try (have hy0 : w.heap.size < w2.heap.size := (by omega))); (try (have hy1 : w.heap.size + 1 < w2.heap.size := (by omega))); (try (have hy2 : w.heap.size + 1 + 1 < w2.heap.size := (by omega))); (try (have hy3 : wr.heap.size < w2.heap.size := (by omega)))))
        obtain ⟨hik, hlen'⟩ := B.out
        go_roundg (gk - 1)
        · refine ⟨i + 1, ?_, by omega, ?_, ?_⟩
          · first
              | (congr 1; done)
              | (congr 1; unfold wrap64; omega)
          · rw [HCT.out, clip_no HQ.out]
          · rw [HCT.out, clip_no HQ.out]
            exact Mem.tail hM2.out
        · omega
      · have HQ : Aside (p m = true) := hq
        rw [hq] at HW
        clear hq
        have h28 : Aside ((Try.prog.info? 28).map (·.size) = some 2) := (by kernel_rfl : (Try.prog.info? 28).map (·.size) = some 2)
        have h30 : Aside ((Try.prog.info? 30).map (·.size) = some 5) := (by kernel_rfl : (Try.prog.info? 30).map (·.size) = some 5)
        rcases sT with _ | ⟨A, B2⟩
        · simp only [Option.isSome_none]
          go_wp2_with (first | (go_at_call 48; refine (HW.out _).mono ?_; rintro e w2 ⟨_, rfl, rfl, hb⟩; have hM2 : Aside (Mem wV w2 [] [(wr.heap.size, [.int .i16 m.1, .int .i16 m.2]), (wV.heap.size, [.int .i16 0, .int .i16 0, .int .i16 0, .int .i16 0, .int .i8 0]), (gL, (rM ms).flatten)]) := (hMA.out.alloc _ _).call hb; obtain ⟨hcb2, hfb2⟩ := bcell hb; simp at hcb2 hfb2; have hs2 := hb.size; simp at hs2; clear hb; (try (have hy0 : w.heap.size < w2.heap.size := (by omega))); (try (have hy1 : w.heap.size + 1 < w2.heap.size := (by omega))); (try (have hy2 : w.heap.size + 1 + 1 < w2.heap.size := (by omega))); (try (have hy3 : wr.heap.size < w2.heap.size := (by omega)))) | (refine wpList_store (b := wV.heap.size) (off := 0) (cs := [.int .i16 0, .int .i16 0, .int .i16 0, .int .i16 0, .int .i8 0]) (vs := [.int .i16 m.1, .int .i16 m.2, .int .i16 0, .int .i16 0, .int .i8 e]) hM2.out 1 rfl rfl rfl rfl rfl rfl h30.out rfl rfl ?_; intro w3 hM3; have hM4 : Aside (Mem wV w3 [] [(wr.heap.size, [.int .i16 m.1, .int .i16 m.2]), (wV.heap.size, splice ([.int .i16 0, .int .i16 0, .int .i16 0, .int .i16 0, .int .i8 0]) 0 [.int .i16 m.1, .int .i16 m.2, .int .i16 0, .int .i16 0, .int .i8 e]), (gL, (rM ms).flatten)]) := hM3; clear hM3; obtain ⟨z1, _⟩ := Mem.cellIn hM4.out (List.mem_cons_self ..) 0 (.int .i16 m.1) rfl; obtain ⟨z2, _⟩ := Mem.cellIn hM4.out (List.mem_cons_self ..) 1 (.int .i16 m.2) rfl) | (refine wpList_store (b := wV.heap.size) (off := 2) (cs := splice ([.int .i16 0, .int .i16 0, .int .i16 0, .int .i16 0, .int .i8 0]) 0 [.int .i16 m.1, .int .i16 m.2, .int .i16 0, .int .i16 0, .int .i8 e]) (vs := [.int .i16 m.1, .int .i16 m.2]) hM4.out 1 rfl rfl rfl rfl rfl rfl h28.out rfl rfl ?_; intro w4 hM3; have hM6 : Aside (Mem wV w4 [] [(wr.heap.size, [.int .i16 m.1, .int .i16 m.2]), (wV.heap.size, splice (splice ([.int .i16 0, .int .i16 0, .int .i16 0, .int .i16 0, .int .i8 0]) 0 [.int .i16 m.1, .int .i16 m.2, .int .i16 0, .int .i16 0, .int .i8 e]) 2 [.int .i16 m.1, .int .i16 m.2]), (gL, (rM ms).flatten)]) := hM3; clear hM3))
          obtain ⟨hik, hlen'⟩ := B.out
          go_roundg (gk - 1)
          · refine ⟨i + 1, ?_, by omega, ?_, ?_⟩
            · first
                | (congr 1; done)
                | (congr 1; unfold wrap64; omega)
            · rw [HCT.out, clip_yes HQ.out]; rfl
            · rw [HCT.out, clip_yes HQ.out]
              exact Mem.tail hM6.out
          · omega
        · simp only [Option.isSome_some]
          go_wp2_with (first | (go_at_call 48; refine (HW.out _).mono ?_; rintro e w2 ⟨_, rfl, rfl, hb⟩; have hM2 : Aside (Mem wV w2 [] [(wr.heap.size, [.int .i16 m.1, .int .i16 m.2]), (wV.heap.size, [.int .i16 A.1, .int .i16 A.2, .int .i16 B2.1, .int .i16 B2.2, .int .i8 e]), (gL, (rM ms).flatten)]) := (hMA.out.alloc _ _).call hb; obtain ⟨hcb2, hfb2⟩ := bcell hb; simp at hcb2 hfb2; have hs2 := hb.size; simp at hs2; clear hb; (try (have hy0 : w.heap.size < w2.heap.size := (by omega))); (try (have hy1 : w.heap.size + 1 < w2.heap.size := (by omega))); (try (have hy2 : w.heap.size + 1 + 1 < w2.heap.size := (by omega))); (try (have hy3 : wr.heap.size < w2.heap.size := (by omega)))) | (refine wpList_store (b := wV.heap.size) (off := 2) (cs := [.int .i16 A.1, .int .i16 A.2, .int .i16 B2.1, .int .i16 B2.2, .int .i8 e]) (vs := [.int .i16 m.1, .int .i16 m.2]) hM2.out 1 rfl rfl rfl rfl rfl rfl h28.out rfl rfl ?_; intro w4 hM3; have hM6 : Aside (Mem wV w4 [] [(wr.heap.size, [.int .i16 m.1, .int .i16 m.2]), (wV.heap.size, splice ([.int .i16 A.1, .int .i16 A.2, .int .i16 B2.1, .int .i16 B2.2, .int .i8 e]) 2 [.int .i16 m.1, .int .i16 m.2]), (gL, (rM ms).flatten)]) := hM3; clear hM3))
          obtain ⟨hik, hlen'⟩ := B.out
          go_roundg (gk - 1)
          · refine ⟨i + 1, ?_, by omega, ?_, ?_⟩
            · first
                | (congr 1; done)
                | (congr 1; unfold wrap64; omega)
            · rw [HCT.out, clip_yes HQ.out]; rfl
            · rw [HCT.out, clip_yes HQ.out]
              exact Mem.tail hM6.out
          · omega
    · have hi' : ¬ ((i : Int) < (ms.length : Int)) := by omega
      have hie : i = ms.length := by omega
      subst hie
      rw [List.take_length] at *
      obtain ⟨hcc, hff⟩ := bcell hMA.out.below
      have hBW := below_step hMA.out.below CW.out.2.2.2.2.2.2
      have hsz := hMA.out.below.size
      have hszv := CW.out.2.2.2.2.2.1
      rcases hcf : clipF p ms with _ | ⟨A, B2⟩
      · rw [hcf] at hMA
        simp only [Option.isSome_none]
        obtain ⟨c0, _⟩ := Mem.cellIn hMA.out (List.mem_cons_self ..) 0 (.int .i16 0) rfl
        obtain ⟨c1, _⟩ := Mem.cellIn hMA.out (List.mem_cons_self ..) 1 (.int .i16 0) rfl
        obtain ⟨c2, _⟩ := Mem.cellIn hMA.out (List.mem_cons_self ..) 2 (.int .i16 0) rfl
        obtain ⟨c3, _⟩ := Mem.cellIn hMA.out (List.mem_cons_self ..) 3 (.int .i16 0) rfl
        obtain ⟨c4, _⟩ := Mem.cellIn hMA.out (List.mem_cons_self ..) 4 (.int .i8 0) rfl
        go_wp2_with fail
        simp [bodyPost, results, Try.results23, go_sem, *]
        exact ⟨_, rfl, by rw [HP.out, hcf]; rfl, (by ((try simp only [Hid] at *); repeat' (first | (with_reducible exact Below.refl _ _) | (with_reducible assumption) | (with_reducible refine below_drewN ?_ _) | (with_reducible refine Below.drew ?_) | (with_reducible refine below_alloc ?_) | (with_reducible refine below_set ?_ ?_) | (refine below_step (by with_reducible assumption) ?_) | (simp; done) | (simp; omega) | omega)))⟩
      · rw [hcf] at hMA
        simp only [Option.isSome_some]
        obtain ⟨c0, _⟩ := Mem.cellIn hMA.out (List.mem_cons_self ..) 0 (.int .i16 A.1) rfl
        obtain ⟨c1, _⟩ := Mem.cellIn hMA.out (List.mem_cons_self ..) 1 (.int .i16 A.2) rfl
        obtain ⟨c2, _⟩ := Mem.cellIn hMA.out (List.mem_cons_self ..) 2 (.int .i16 B2.1) rfl
        obtain ⟨c3, _⟩ := Mem.cellIn hMA.out (List.mem_cons_self ..) 3 (.int .i16 B2.2) rfl
        obtain ⟨c4, _⟩ := Mem.cellIn hMA.out (List.mem_cons_self ..) 4 (.int .i8 e) rfl
        go_wp2_with fail
        simp [bodyPost, results, Try.results23, go_sem, *]
        exact ⟨_, rfl, by rw [HP.out, hcf]; rfl, (by ((try simp only [Hid] at *); repeat' (first | (with_reducible exact Below.refl _ _) | (with_reducible assumption) | (with_reducible refine below_drewN ?_ _) | (with_reducible refine Below.drew ?_) | (with_reducible refine below_alloc ?_) | (with_reducible refine below_set ?_ ?_) | (refine below_step (by with_reducible assumption) ?_) | (simp; done) | (simp; omega) | omega)))⟩
theorem ClipStrokeS (a b c d e l0 l1 h0 h1 : Int) (ha : I16 a) (hb : I16 b) (hc : I16 c) (hd : I16 d) (he : I8 e) (hl0 : I16 l0) (hl1 : I16 l1) (hh0 : I16 h0) (hh1 : I16 h1) (w : World) : Calls Try.prog 21 #[st a b c d e, mk l0 l1, mk h0 h1] w (Gives (fun v => v = clipV a b c d e l0 l1 h0 h1) w) := by
  unfold clipV
  cases hq : (okS a b c d e && okM l0 l1 && okM h0 h1)
  · exact ClipStrokeS_bad a b c d e l0 l1 h0 h1 ha hb hc hd he hl0 hl1 hh0 hh1 hq w
  · cases hr : (decide (h0 < l0) || decide (h1 < l1))
    · exact ClipStrokeS_main a b c d e l0 l1 h0 h1 ha hb hc hd he hl0 hl1 hh0 hh1 hq hr w
    · exact ClipStrokeS_range a b c d e l0 l1 h0 h1 ha hb hc hd he hl0 hl1 hh0 hh1 hq hr w
theorem ClipStrokeI (a b c d e l0 l1 h0 h1 : Int) (ha : I16 a) (hb : I16 b) (hc : I16 c) (hd : I16 d) (he : I8 e) (w : World) : Calls Try.prog 23 #[st a b c d e, mk l0 l1, mk h0 h1] w (Gives (fun v => v = clipV a b c d e l0 l1 h0 h1) w) := by
  unfold clipV
  cases hq : (okS a b c d e && okM l0 l1 && okM h0 h1)
  · exact ClipStrokeI_bad a b c d e l0 l1 h0 h1 ha hb hc hd he (by rw [← Bool.and_assoc]; exact hq) w
  · cases hr : (decide (h0 < l0) || decide (h1 < l1))
    · exact ClipStrokeI_main a b c d e l0 l1 h0 h1 ha hb hc hd he (by rw [← Bool.and_assoc]; exact hq) hr w
    · exact ClipStrokeI_range a b c d e l0 l1 h0 h1 ha hb hc hd he (by rw [← Bool.and_assoc]; exact hq) hr w
end Go.Proofs.Ytbkcoiojcjmmlaa
