/- Contracts: the sides of a loop, the filling of a loop (model). -/
import Derived.Test.YtbhbdpcefgledaaFilE
import Derived.StillTailTactics
namespace Go.Proofs.Ytbhbdpcefgledaa
--## d
open Go.Inv
--## d
open Go.ChangeShapes Go.WideShapes Go.ChangeAt Go.RowKit Go.Flo Go.Mem
set_option linter.unusedSimpArgs false
set_option linter.unusedVariables false
set_option maxRecDepth 20000
--## d
set_option maxHeartbeats 4000000 in
theorem l06LoopS (v : Value) (ms : List (Int × Int)) (w : World) (hP : Rls 2 w v (rM ms)) (hn : ms.length ≤ 1048576) (hwf : ∀ m ∈ ms, I16 m.1 ∧ I16 m.2) :
    Calls Try.prog 30 #[v, .int .i64 1] w (Gives (isI (codeL ms)) w) := by
  have A : Aside (∀ m ∈ ms, I16 m.1 ∧ I16 m.2) := hwf
  have hP' := hP
  obtain ⟨a, c, rfl, _⟩ := hP
  rw [rM_len] at *
  clear hwf
  go_enter Try.func30, Try.ntmps30
  go_wp2_with fail
  go_loopg [5] ms.length (fun k s3 wr => ∃ (i : Nat), s3 = .int .i64 i ∧ i + k = ms.length ∧ allM (ms.take i) = true ∧ Below w.heap.size w wr)
  · exact ⟨0, rfl, by omega, rfl, Below.refl _ _⟩
  · obtain ⟨i, rfl, hik, hr, HB⟩ := hrel
    have B : Aside (i + gk = ms.length ∧ allM (ms.take i) = true ∧ Below w.heap.size w wr) := ⟨hik, hr, HB⟩
    by_cases hi : i < ms.length
    · obtain ⟨m, hm⟩ : ∃ m, ms[i]? = some m := ⟨ms[i], List.getElem?_eq_getElem hi⟩
      obtain ⟨b, c', e0, hbl, hcells⟩ := (hP'.below HB).at (rM_get hm)
      rw [rM_len] at e0
      cases e0
      have hi' : (i : Int) < (ms.length : Int) := by omega
      have P0 : Aside (ms[i]? = some m) := hm
      have C : Aside (∀ k x, ([.int .i16 m.1, .int .i16 m.2] : List Value)[k]? = some x → wr.cell? ((b.add (i * 2)).add k) = some x) := hcells
      have H1 : Aside (∀ w, Calls Try.prog 36 #[mk m.1 m.2] w (Gives (isB (okM m.1 m.2)) w)) := fun w => l06MarkA m.1 m.2 (A.out m (List.mem_of_getElem? hm)).1 (A.out m (List.mem_of_getElem? hm)).2 w
      clear hcells hbl hP' hm hik hr HB
      cases hq : okM m.1 m.2
      all_goals
        rw [hq] at H1
        have HQ : Aside (okM m.1 m.2 = _) := hq
        clear hq
        go_wp2_with (first
          | (refine wpList_idxR rfl rfl (by kernel_rfl) (by kernel_rfl) rfl rfl (Int.natCast_nonneg _) hi' ?_; simp only [Int.toNat_natCast])
          | (refine wpList_rowR rfl rfl (n := 2) (by kernel_rfl) rfl rfl C.out ?_)
          | (go_at_call 36; refine (H1.out _).mono ?_; rintro e w' ⟨_, rfl, rfl, hb⟩; have HB1 := Lib.hid hb; clear hb))
      · simp [bodyPost, results, Try.results30, go_sem]
        exact ⟨_, rfl, by rw [codeL, allM_bad P0.out HQ.out]; rfl, below_step HB1.out B.out.2.2⟩
      · obtain ⟨hik, hr, HB⟩ := B.out
        go_roundg (gk - 1)
        · refine ⟨i + 1, ?_, by omega, by rw [allM_take P0.out hr]; exact HQ.out, below_step HB1.out HB⟩
          first
            | (congr 1; done)
            | (congr 1; unfold wrap64; omega)
        · omega
    · have hi' : ¬ ((i : Int) < (ms.length : Int)) := by omega
      have hie : i = ms.length := by omega
      have HL : allM ms = true := by rw [hie, List.take_of_length_le (Nat.le_refl _)] at hr; exact hr
      have D : Aside (codeL ms = if 1 ≤ ms.length ∧ ms.length ≤ 16 then 0 else 2) := by
        show codeL ms = _
        unfold codeL
        rw [HL, if_pos rfl]
      clear hP' hik hr hie HL
      have H2 : Aside (∀ w, Calls Try.prog 46 #[.int .i64 (ms.length : Int), .int .i64 1, .int .i64 16] w (Same (isB (decide ((1 : Int) ≤ (ms.length : Int)) && decide ((ms.length : Int) ≤ 16))) w)) := fun w => l00InA _ _ _ w
      by_cases h1 : 1 ≤ ms.length ∧ ms.length ≤ 16
      · have e : (decide ((1 : Int) ≤ (ms.length : Int)) && decide ((ms.length : Int) ≤ 16)) = true := by simp; omega
        rw [e] at H2
        rw [if_pos h1] at D
        clear e h1
        go_wp2_with (go_at_call 46; refine (H2.out _).mono ?_; rintro e w'' ⟨_, rfl, eb, rfl⟩; cases eb)
        simp [bodyPost, results, Try.results30, go_sem]
        exact ⟨_, rfl, by rw [D.out]; rfl, HB⟩
      · have e : (decide ((1 : Int) ≤ (ms.length : Int)) && decide ((ms.length : Int) ≤ 16)) = false := by
          cases hq : (decide ((1 : Int) ≤ (ms.length : Int)) && decide ((ms.length : Int) ≤ 16))
          · rfl
          · simp at hq; omega
        rw [e] at H2
        rw [if_neg h1] at D
        clear e h1
        go_wp2_with (go_at_call 46; refine (H2.out _).mono ?_; rintro e w'' ⟨_, rfl, eb, rfl⟩; cases eb)
        simp [bodyPost, results, Try.results30, go_sem]
        exact ⟨_, rfl, by rw [D.out]; rfl, HB⟩
--## d
theorem drawn0 (k : Nat) : drawnF 0 k = true := by
  unfold drawnF
  simp
--## d
theorem inkN_step {put : List Int → Bool → Int → Int → List Int} {ink : Bool} {zs : List Int} {mk' : List (Int × Int)} {k : Nat} {m : Int × Int} (hm : mk'[k]? = some m) : inkN put 0 ink zs mk' (k + 1) = put (inkN put 0 ink zs mk' k) ink m.1 m.2 := by
  show (if drawnF 0 k then _ else _) = _
  rw [drawn0, if_pos rfl]
  have : mk'.getD k (0, 0) = m := by simp [List.getD_eq_getElem?_getD, hm]
  rw [this]
--## d
set_option maxHeartbeats 8000000 in
theorem l06SidesS (g : Nat) (zs : List Int) (v : Value) (ms : List (Int × Int)) (ink : Bool) (w0 w : World) {r l : Blocks} (hM : Mem w0 w r ((g, rU zs) :: l)) (hl : zs.length = 64) (hP : Rls 2 w0 v (rM ms)) (hn : ms.length ≤ 16) (hok : ∀ m ∈ ms, okM m.1 m.2 = true) :
    Calls Try.prog 58 #[.pointer (some ⟨g, 0, none⟩), v, .bool ink] w (fun e w' => e = .returned (.tuple #[]) ∧ ∃ L, Mem w0 w' r ((g, rU (inkS putS ink zs (sidesL ms) ms.length)) :: L) ∧ ∀ x ∈ l, x ∈ L) := by
  have A : Aside (Rls 2 w0 v (rM ms) ∧ ms.length ≤ 16 ∧ ∀ m ∈ ms, okM m.1 m.2 = true) := ⟨hP, hn, hok⟩
  have A2 : Aside (Mem w0 w r ((g, rU zs) :: l) ∧ zs.length = 64) := ⟨hM, hl⟩
  obtain ⟨a, c, rfl, _⟩ := hP
  rw [rM_len] at *
  clear hn hok hM hl
  go_enter Try.func58, Try.ntmps58
  go_wp2_with fail
  go_loopg [6] ms.length (fun k s6 wr => ∃ (i : Nat) (L : Blocks), s6 = .int .i64 i ∧ i + k = ms.length ∧ Mem w0 wr r ((g, rU (inkS putS ink zs (sidesL ms) i)) :: L) ∧ ∀ x ∈ l, x ∈ L)
  · exact ⟨0, l, rfl, by omega, A2.out.1, fun x hx => hx⟩
  · obtain ⟨i, L, rfl, hik, hM, hLl⟩ := hrel
    have B : Aside (i + gk = ms.length ∧ Mem w0 wr r ((g, rU (inkS putS ink zs (sidesL ms) i)) :: L) ∧ ∀ x ∈ l, x ∈ L) := ⟨hik, hM, hLl⟩
    have hMb := hM.below
    by_cases hi : i < ms.length
    · skip
      obtain ⟨m, hm⟩ : ∃ m, ms[i]? = some m := ⟨ms[i], List.getElem?_eq_getElem hi⟩
      obtain ⟨j, hj⟩ : ∃ j, (i + 1) % ms.length = j := ⟨_, rfl⟩
      have hjl : j < ms.length := by rw [← hj]; exact Nat.mod_lt _ (by omega)
      obtain ⟨o, ho⟩ : ∃ o, ms[j]? = some o := ⟨ms[j], List.getElem?_eq_getElem hjl⟩
      obtain ⟨b, c', e0, hbl, hcells⟩ := (A.out.1.below hMb).at (rM_get hm)
      obtain ⟨b2, c2, e2, hbl2, hcells2⟩ := (A.out.1.below hMb).at (rM_get ho)
      rw [rM_len] at e0 e2
      cases e0
      cases e2
      have hi' : (i : Int) < (ms.length : Int) := by omega
      have hjl' : (j : Int) < (ms.length : Int) := by omega
      have hj0 : (0 : Int) ≤ (j : Int) := Int.natCast_nonneg _
      have hi0 : (0 : Int) ≤ (i : Int) := Int.natCast_nonneg _
      have hn16 : (ms.length : Int) ≤ 16 := by have := A.out.2.1; omega
      have hmod : Int.tmod ((i : Int) + 1) (ms.length : Int) = (j : Int) := by rw [← hj, Int.natCast_emod, Int.natCast_add]; exact Int.tmod_eq_emod_of_nonneg (by omega)
      have hn0 : (0 : Int) < (ms.length : Int) := by omega
      have hne : ¬ ((ms.length : Int) = 0) := by omega
      have hnil : ¬ (ms = []) := by rintro rfl; simp at hi
      have hmod2 : (IntKind.i64.wrap ((i : Int) + 1)).tmod (ms.length : Int) = (j : Int) := by rw [IntKind.wrap_i64, show (((i : Int) + 1 + 9223372036854775808) % 18446744073709551616 - 9223372036854775808) = (i : Int) + 1 by omega]; exact hmod
      have P0 : Aside ((sidesL ms)[i]? = some (m.1, m.2, o.1, o.2, 0)) := sidesL_get hm (by rw [hj]; exact ho)
      have PM : Aside (okM m.1 m.2 = true ∧ okM o.1 o.2 = true) := ⟨A.out.2.2 m (List.mem_of_getElem? hm), A.out.2.2 o (List.mem_of_getElem? ho)⟩
      have q1 : wr.cell? (b.add (i * 2)) = some (.int .i16 m.1) := hcells 0 _ rfl
      have q2 : wr.cell? ⟨(b.add (i * 2)).block, (b.add (i * 2)).off + 1, none⟩ = some (.int .i16 m.2) := hcells 1 _ rfl
      have q3 : wr.cell? (b.add (j * 2)) = some (.int .i16 o.1) := hcells2 0 _ rfl
      have q4 : wr.cell? ⟨(b.add (j * 2)).block, (b.add (j * 2)).off + 1, none⟩ = some (.int .i16 o.2) := hcells2 1 _ rfl
      clear hcells hbl hcells2 hbl2 hm ho hj
      have hgd : (sidesL ms).getD i (0, 0, 0, 0, 0) = (m.1, m.2, o.1, o.2, 0) := by simp [List.getD_eq_getElem?_getD, P0.out]
      have HST : Aside (inkS putS ink zs (sidesL ms) (i + 1) = inkN putS 0 ink (inkS putS ink zs (sidesL ms) i) (msK (m.1, m.2, o.1, o.2, 0)) (msK (m.1, m.2, o.1, o.2, 0)).length) := by
        show strokeF putS ink (inkS putS ink zs (sidesL ms) i) ((sidesL ms).getD i (0, 0, 0, 0, 0)) = _
        rw [hgd]; rfl
      have HLN : Aside ((inkS putS ink zs (sidesL ms) i).length = 64) := by
        show (inkS putS ink zs (sidesL ms) i).length = 64
        rw [inkS_len putS_len]; exact A2.out.2
      have HMK : Aside (∀ w, Calls Try.prog 79 #[mk m.1 m.2, mk o.1 o.2] w (fun e w' => ∃ g k, e = .returned (.slice (some ⟨g, 0, none⟩) (msK (m.1, m.2, o.1, o.2, 0)).length k) ∧ Mem w w' [] [(g, (rM (msK (m.1, m.2, o.1, o.2, 0))).flatten)])) := fun w => l06MarksM m.1 m.2 o.1 o.2 (okM_bd6 PM.out.1).1 (okM_bd6 PM.out.1).2 (okM_bd6 PM.out.2).1 (okM_bd6 PM.out.2).2 w
      have hms : (msK (m.1, m.2, o.1, o.2, 0)).length ≤ 1001 := msK_len (by unfold okK okS; simp only [PM.out.1, PM.out.2, Bool.true_and]; rfl)
      have HM1 : Aside (Mem w0 wr.drew r ((g, rU (inkS putS ink zs (sidesL ms) i)) :: L)) := hM.drew
      clear hgd hM hLl hMb hik
      generalize inkS putS ink zs (sidesL ms) i = G at *
      generalize msK (m.1, m.2, o.1, o.2, 0) = mm at *
      have HMF : Aside (mm.length ≤ 1001) := hms
      go_wp2_with fail
      go_still_tail 12, (by kernel_rfl)
      change wpList _ _ _ _ _ wr.drew
      clear q1 q2 q3 q4
      generalize wr.drew = w4 at *
      go_wp2_with (go_at_call 79; refine (HMK.out _).mono ?_; rintro e w2 ⟨gl, kl, rfl, hML⟩; have HL : Aside (Mem w0 w2 r ((g, rU G) :: (L ++ [(gl, (rM mm).flatten)]))) := Mem.joinG HM1.out hML; clear hML)
      go_loopg [8] mm.length (fun k s8 wq => ∃ (t : Nat), s8 = .int .i64 t ∧ t + k = mm.length ∧ Mem w0 wq r ((g, rU (inkN putS 0 ink G mm t)) :: (L ++ [(gl, (rM mm).flatten)])))
      · exact ⟨0, rfl, by omega, HL.out⟩
      · obtain ⟨t, rfl, htk, hM⟩ := hrel
        have E : Aside (t + gk = mm.length ∧ Mem w0 wr r ((g, rU (inkN putS 0 ink G mm t)) :: (L ++ [(gl, (rM mm).flatten)]))) := ⟨htk, hM⟩
        by_cases ht : t < mm.length
        · obtain ⟨p, hp⟩ : ∃ p, mm[t]? = some p := ⟨mm[t], List.getElem?_eq_getElem ht⟩
          have ht' : (t : Int) < (mm.length : Int) := by omega
          have ht0 : (0 : Int) ≤ (t : Int) := Int.natCast_nonneg _
          have hmem : (gl, (rM mm).flatten) ∈ ((g, rU (inkN putS 0 ink G mm t)) :: (L ++ [(gl, (rM mm).flatten)])) := by simp
          obtain ⟨q1, _⟩ := Mem.cellIn hM hmem (t * 2 + 0) (.int .i16 p.1) (flatten_get t rM_row (rM_get hp) 0 _ rfl)
          obtain ⟨q2, _⟩ := Mem.cellIn hM hmem (t * 2 + 1) (.int .i16 p.2) (flatten_get t rM_row (rM_get hp) 1 _ rfl)
          rw [Nat.add_zero] at q1
          have HS2 : Aside (inkN putS 0 ink G mm (t + 1) = putS (inkN putS 0 ink G mm t) ink p.1 p.2) := inkN_step hp
          have HL2 : Aside ((inkN putS 0 ink G mm t).length = 64) := by
            show (inkN putS 0 ink G mm t).length = 64
            rw [inkN_len putS_len]; exact HLN.out
          clear htk hM hp hmem
          generalize inkN putS 0 ink G mm t = cur at *
          go_wp2_with (go_at_call 57; refine (l06PutS_all g p.1 p.2 ink cur w0 _ E.out.2 HL2.out).mono ?_; rintro e w5 ⟨rfl, hM5⟩; have HM5 := Lib.hid hM5; clear hM5)
          obtain ⟨htk, hM⟩ := E.out
          go_roundg (gk - 1)
          · refine ⟨t + 1, ?_, by omega, by rw [HS2.out]; exact HM5.out⟩
            first
              | (congr 1; done)
              | (congr 1; have := HMF.out; unfold wrap64; omega)
          · omega
        · have ht' : ¬ ((t : Int) < (mm.length : Int)) := by omega
          have hte : t = mm.length := by omega
          clear htk
          go_wp2_with fail
          obtain ⟨hik, hM1, hLl⟩ := B.out
          go_roundg (ms.length - i - 1)
          · refine ⟨i + 1, _, ?_, by omega, by rw [HST.out, ← hte]; exact hM, fun x hx => by simp [hLl x hx]⟩
            first
              | (congr 1; done)
              | (congr 1; unfold wrap64; omega)
          · omega
    · have hi' : ¬ ((i : Int) < (ms.length : Int)) := by omega
      have hie : i = ms.length := by omega
      go_wp2_with fail
      simp [bodyPost, results, Try.results58, go_sem]
      exact ⟨_, by rw [← hie]; exact hM, fun a b h => hLl _ h⟩
--## d
end Go.Proofs.Ytbhbdpcefgledaa
