/- Contracts: the filling of a loop (model). -/
import Derived.Test.YtbhbdpcefgledaaFilF
import Derived.StillTailTactics
namespace Go.Proofs.Ytbhbdpcefgledaa
--## d
open Go.Inv
--## d
open Go.ChangeShapes Go.WideShapes Go.ChangeAt Go.RowKit Go.Flo Go.Mem
set_option linter.unusedSimpArgs false
set_option linter.unusedVariables false
set_option maxRecDepth 20000
--## d
theorem odd_step (a : Nat) (q : Bool) : decide ((a + (if q = true then 1 else 0)) % 2 = 1) = if q = true then !decide (a % 2 = 1) else decide (a % 2 = 1) := by
  cases q
  · simp
  · simp only [if_true]
    rcases Nat.mod_two_eq_zero_or_one a with h | h
    · rw [show (a + 1) % 2 = 1 by omega, h]; rfl
    · rw [show (a + 1) % 2 = 0 by omega, h]; rfl
--## d
set_option maxHeartbeats 8000000 in
theorem l06FillS (g : Nat) (zs : List Int) (v : Value) (ms : List (Int × Int)) (ink : Bool) (w0 w : World) {r l : Blocks} (hM : Mem w0 w r ((g, rU zs) :: l)) (hl : zs.length = 64) (hP : Rls 2 w0 v (rM ms)) (hn : ms.length ≤ 16) (hok : ∀ m ∈ ms, okM m.1 m.2 = true) :
    Calls Try.prog 31 #[.pointer (some ⟨g, 0, none⟩), v, .bool ink] w (fun e w' => e = .returned (.tuple #[]) ∧ ∃ L, Mem w0 w' r ((g, rU (fillF putS ink (sidesL ms) zs)) :: L) ∧ ∀ x ∈ l, x ∈ L) := by
  have A : Aside (Rls 2 w0 v (rM ms) ∧ ms.length ≤ 16 ∧ ∀ m ∈ ms, okM m.1 m.2 = true) := ⟨hP, hn, hok⟩
  have A2 : Aside (Mem w0 w r ((g, rU zs) :: l) ∧ zs.length = 64) := ⟨hM, hl⟩
  obtain ⟨a, c, rfl, _⟩ := hP
  rw [rM_len] at *
  clear hn hok hM hl
  go_enter Try.func31, Try.ntmps31
  go_wp2_with fail
  go_loopg [6] 64 (fun k s6 wr => ∃ (y : Nat), s6 = .int .i64 y ∧ y + k = 64 ∧ Mem w0 wr r ((g, rU (gridF putS ink (sidesL ms) zs y)) :: l))
  · exact ⟨0, rfl, by omega, A2.out.1⟩
  · obtain ⟨y, rfl, hyk, hM⟩ := hrel
    have B : Aside (y + gk = 64 ∧ Mem w0 wr r ((g, rU (gridF putS ink (sidesL ms) zs y)) :: l)) := ⟨hyk, hM⟩
    clear hM
    by_cases hy : y < 64
    · have hy' : (y : Int) < 64 := by omega
      have hy0 : (0 : Int) ≤ (y : Int) := Int.natCast_nonneg _
      go_wp2_with fail
      have HRW : Aside (gridF putS ink (sidesL ms) zs (y + 1) = rowF putS ink (sidesL ms) y (gridF putS ink (sidesL ms) zs y) 64) := rfl
      have HLG : Aside ((gridF putS ink (sidesL ms) zs y).length = 64) := by
        show (gridF putS ink (sidesL ms) zs y).length = 64
        rw [gridF_len putS_len]; exact A2.out.2
      generalize gridF putS ink (sidesL ms) zs y = G at *
      go_loopg [7] 64 (fun k s7 wq => ∃ (x : Nat), s7 = .int .i64 x ∧ x + k = 64 ∧ Mem w0 wq r ((g, rU (rowF putS ink (sidesL ms) y G x)) :: l))
      · exact ⟨0, rfl, by omega, B.out.2⟩
      · obtain ⟨x, rfl, hxk, hM⟩ := hrel
        have D : Aside (x + gk = 64 ∧ Mem w0 wr r ((g, rU (rowF putS ink (sidesL ms) y G x)) :: l)) := ⟨hxk, hM⟩
        clear hM
        by_cases hx : x < 64
        · have hx' : (x : Int) < 64 := by omega
          have hx0 : (0 : Int) ≤ (x : Int) := Int.natCast_nonneg _
          have HST : Aside (rowF putS ink (sidesL ms) y G (x + 1) = if cnt (sidesL ms) x y (sidesL ms).length % 2 = 1 then putS (rowF putS ink (sidesL ms) y G x) ink x y else rowF putS ink (sidesL ms) y G x) := rfl
          have HLN : Aside ((rowF putS ink (sidesL ms) y G x).length = 64) := by
            show (rowF putS ink (sidesL ms) y G x).length = 64
            rw [rowF_len putS_len]; exact HLG.out
          generalize rowF putS ink (sidesL ms) y G x = cur at *
          go_wp2_with fail
          go_loopg [8, 9] ms.length (fun k s8 s9 wq => ∃ (i : Nat), s9 = .int .i64 i ∧ s8 = .bool (decide (cnt (sidesL ms) x y i % 2 = 1)) ∧ i + k = ms.length ∧ Mem w0 wq r ((g, rU cur) :: l))
          · exact ⟨0, rfl, by simp [cnt], by omega, D.out.2⟩
          · obtain ⟨i, rfl, rfl, hik, hM⟩ := hrel
            have E : Aside (i + gk = ms.length ∧ Mem w0 wr r ((g, rU cur) :: l)) := ⟨hik, hM⟩
            have hMb := hM.below
            by_cases hi : i < ms.length
            · skip
              obtain ⟨m, hm⟩ : ∃ m, ms[i]? = some m := ⟨ms[i], List.getElem?_eq_getElem hi⟩
              obtain ⟨j, hj⟩ : ∃ j, (i + 1) % ms.length = j := ⟨_, rfl⟩
              have hjl : j < ms.length := by rw [← hj]; exact Nat.mod_lt _ (by omega)
              obtain ⟨o, ho⟩ : ∃ o, ms[j]? = some o := ⟨ms[j], List.getElem?_eq_getElem hjl⟩
              obtain ⟨b, c', e0, hbl, hcells⟩ := (A.out.1.below hMb).at (rM_get hm)
              obtain ⟨b2, c2, e2, hbl2, hcells2⟩ := (A.out.1.below hMb).at (rM_get ho)
              rw [rM_len] at e0 e2
              cases e0
              cases e2
              have hi' : (i : Int) < (ms.length : Int) := by omega
              have hjl' : (j : Int) < (ms.length : Int) := by omega
              have hj0 : (0 : Int) ≤ (j : Int) := Int.natCast_nonneg _
              have hi0 : (0 : Int) ≤ (i : Int) := Int.natCast_nonneg _
              have hn16 : (ms.length : Int) ≤ 16 := by have := A.out.2.1; omega
              have hmod : Int.tmod ((i : Int) + 1) (ms.length : Int) = (j : Int) := by rw [← hj, Int.natCast_emod, Int.natCast_add]; exact Int.tmod_eq_emod_of_nonneg (by omega)
              have hn0 : (0 : Int) < (ms.length : Int) := by omega
              have hne : ¬ ((ms.length : Int) = 0) := by omega
              have hnil : ¬ (ms = []) := by rintro rfl; simp at hi
              have hmod2 : (IntKind.i64.wrap ((i : Int) + 1)).tmod (ms.length : Int) = (j : Int) := by rw [IntKind.wrap_i64, show (((i : Int) + 1 + 9223372036854775808) % 18446744073709551616 - 9223372036854775808) = (i : Int) + 1 by omega]; exact hmod
              have P0 : Aside ((sidesL ms)[i]? = some (m.1, m.2, o.1, o.2, 0)) := sidesL_get hm (by rw [hj]; exact ho)
              have PM : Aside (okM m.1 m.2 = true ∧ okM o.1 o.2 = true) := ⟨A.out.2.2 m (List.mem_of_getElem? hm), A.out.2.2 o (List.mem_of_getElem? ho)⟩
              have q1 : wr.cell? (b.add (i * 2)) = some (.int .i16 m.1) := hcells 0 _ rfl
              have q2 : wr.cell? ⟨(b.add (i * 2)).block, (b.add (i * 2)).off + 1, none⟩ = some (.int .i16 m.2) := hcells 1 _ rfl
              have q3 : wr.cell? (b.add (j * 2)) = some (.int .i16 o.1) := hcells2 0 _ rfl
              have q4 : wr.cell? ⟨(b.add (j * 2)).block, (b.add (j * 2)).off + 1, none⟩ = some (.int .i16 o.2) := hcells2 1 _ rfl
              clear hcells hbl hcells2 hbl2 hm ho hj
              have HCR : Aside (∀ w, Calls Try.prog 56 #[mk m.1 m.2, mk o.1 o.2, .int .i64 (x : Int), .int .i64 (y : Int)] w (Gives (isB (crs (m.1, m.2, o.1, o.2, 0) x y)) w)) := fun w => l06CrossesS m.1 m.2 o.1 o.2 x y (by have := (okM_bd6 PM.out.1).1; exact ⟨by omega, by omega⟩) (by have := (okM_bd6 PM.out.1).2; exact ⟨by omega, by omega⟩) (by have := (okM_bd6 PM.out.2).1; exact ⟨by omega, by omega⟩) (by have := (okM_bd6 PM.out.2).2; exact ⟨by omega, by omega⟩) ⟨by omega, by omega⟩ ⟨by omega, by omega⟩ w
              have HCS : Aside (decide (cnt (sidesL ms) x y (i + 1) % 2 = 1) = if crs (m.1, m.2, o.1, o.2, 0) x y = true then !decide (cnt (sidesL ms) x y i % 2 = 1) else decide (cnt (sidesL ms) x y i % 2 = 1)) := by
                show decide (cnt (sidesL ms) x y (i + 1) % 2 = 1) = _
                rw [cnt_step P0.out, odd_step]
              have HM1 : Aside (Mem w0 wr.drew r ((g, rU cur) :: l)) := hM.drew
              clear hM hMb hik hyk hxk
              generalize hbo : decide (cnt (sidesL ms) x y i % 2 = 1) = bo at *
              clear hbo
              cases hq : crs (m.1, m.2, o.1, o.2, 0) x y
              all_goals
                rw [hq] at HCR HCS
                clear hq
                go_wp2_with fail
                go_still_tail 14, (by kernel_rfl)
                change wpList _ _ _ _ _ wr.drew
                clear q1 q2 q3 q4
                generalize wr.drew = w4 at *
                go_wp2_with (go_at_call 56; refine (HCR.out _).mono ?_; rintro e w2 ⟨_, rfl, rfl, hb2⟩; have HM2 := Lib.hid (HM1.out.call hb2); clear hb2)
                have h1 := HCS.out
                simp only [if_true, Bool.false_eq_true, if_false] at h1
                obtain ⟨hik, _⟩ := E.out
                go_roundg (gk - 1)
                · refine ⟨i + 1, ?_, by rw [h1], by omega, HM2.out⟩
                  first
                    | (congr 1; done)
                    | (congr 1; unfold wrap64; omega)
                · omega
            · have hi' : ¬ ((i : Int) < (ms.length : Int)) := by omega
              have hie : i = ms.length := by omega
              have hwx : IntKind.i16.wrap (x : Int) = (x : Int) := by simp only [IntKind.wrap, IntKind.signed, IntKind.bits]; simp; omega
              have hwy : IntKind.i16.wrap (y : Int) = (y : Int) := by simp only [IntKind.wrap, IntKind.signed, IntKind.bits]; simp; omega
              clear hik hMb hM hyk hxk
              by_cases ho : cnt (sidesL ms) x y i % 2 = 1
              · have HO : Aside (cnt (sidesL ms) x y (sidesL ms).length % 2 = 1) := by
                  show cnt (sidesL ms) x y (sidesL ms).length % 2 = 1
                  rw [sidesL_len, ← hie]; exact ho
                rw [decide_eq_true ho]
                clear ho
                go_wp2_with (go_at_call 57; refine (l06PutS_all g x y ink cur w0 _ E.out.2 HLN.out).mono ?_; rintro e w5 ⟨rfl, hM5⟩; have HM5 := Lib.hid hM5; clear hM5)
                obtain ⟨hxk, _⟩ := D.out
                go_roundg (63 - x)
                · refine ⟨x + 1, ?_, by omega, by rw [HST.out, if_pos HO.out]; exact HM5.out⟩
                  first
                    | (congr 1; done)
                    | (congr 1; unfold wrap64; omega)
                · omega
              · have HO : Aside (¬ cnt (sidesL ms) x y (sidesL ms).length % 2 = 1) := by
                  show ¬ cnt (sidesL ms) x y (sidesL ms).length % 2 = 1
                  rw [sidesL_len, ← hie]; exact ho
                rw [decide_eq_false ho]
                clear ho
                go_wp2_with fail
                obtain ⟨hxk, _⟩ := D.out
                go_roundg (63 - x)
                · refine ⟨x + 1, ?_, by omega, by rw [HST.out, if_neg HO.out]; exact E.out.2⟩
                  first
                    | (congr 1; done)
                    | (congr 1; unfold wrap64; omega)
                · omega
        · have hx' : ¬ ((x : Int) < 64) := by omega
          have hxe : x = 64 := by omega
          clear hyk
          go_wp2_with fail
          have hyk := B.out.1
          go_roundg (63 - y)
          · refine ⟨y + 1, ?_, by omega, by rw [HRW.out, ← hxe]; exact D.out.2⟩
            first
              | (congr 1; done)
              | (congr 1; unfold wrap64; omega)
          · omega
    · have hy' : ¬ ((y : Int) < 64) := by omega
      have hye : y = 64 := by omega
      subst hye
      clear hyk
      have HLG : Aside ((gridF putS ink (sidesL ms) zs 64).length = 64) := by
        show (gridF putS ink (sidesL ms) zs 64).length = 64
        rw [gridF_len putS_len]; exact A2.out.2
      have HFI : Aside (fillF putS ink (sidesL ms) zs = inkS putS ink (gridF putS ink (sidesL ms) zs 64) (sidesL ms) ms.length) := by
        show fillF putS ink (sidesL ms) zs = _
        unfold fillF
        rw [sidesL_len]
      generalize gridF putS ink (sidesL ms) zs 64 = G at *
      go_wp2_with (go_at_call 58; refine (l06SidesS g G _ ms ink w0 _ B.out.2 HLG.out A.out.1 A.out.2.1 A.out.2.2).mono ?_; rintro e w5 ⟨rfl, L, hM5, hL5⟩; have HM5 := Lib.hid hM5; have HL5 := Lib.hid hL5; clear hM5 hL5)
      simp [bodyPost, results, Try.results31, go_sem]
      exact ⟨_, by rw [HFI.out]; exact HM5.out, fun a b h => HL5.out _ h⟩
--## d
theorem codeL_cases (ms : List (Int × Int)) : (codeL ms = 0 ∧ allM ms = true ∧ ms.length ≤ 16) ∨ codeL ms = 1 ∨ codeL ms = 2 := by
  unfold codeL
  by_cases h : allM ms = true
  · rw [if_pos h]
    by_cases h1 : 1 ≤ ms.length ∧ ms.length ≤ 16
    · rw [if_pos h1]; exact .inl ⟨rfl, h, h1.2⟩
    · rw [if_neg h1]; exact .inr (.inr rfl)
  · rw [if_neg h]; exact .inr (.inl rfl)
--## d
set_option maxHeartbeats 8000000 in
theorem FillLoopS (zs : List Int) (v : Value) (ms : List (Int × Int)) (ink : Bool) (w : World) (hs : Sh zs) (hP : Rls 2 w v (rM ms)) (hn : ms.length ≤ 1048576) (hwf : ∀ m ∈ ms, I16 m.1 ∧ I16 m.2) :
    Calls Try.prog 7 #[.agg (shA zs), v, .bool ink] w (Gives (fun r => r = fillV zs ms ink) w) := by
  have A : Aside (Rls 2 w v (rM ms) ∧ ms.length ≤ 1048576 ∧ zs.length = 64 ∧ Sh zs ∧ ∀ m ∈ ms, I16 m.1 ∧ I16 m.2) := ⟨hP, hn, hs.1, hs, hwf⟩
  have HV : Aside (fillV zs ms ink = if codeL ms = 0 then .tuple #[.agg (shA (fillF putI ink (sidesL ms) zs)), .int .i64 0] else .tuple #[.agg (shA zero64), .int .i64 (codeL ms)]) := rfl
  clear hn hs hwf hP
  have HM := Mem.start w
  have tk1 : True := trivial
  have hz := zero_sheet
  have hbd := build_sheet
  rcases codeL_cases ms with ⟨hc, hA, h2⟩ | hc | hc
  · have HC : Aside (codeL ms = 0) := hc
    rw [hc, if_pos rfl] at HV
    have H16 : Aside (∀ m ∈ ms, okM m.1 m.2 = true) := allM_all hA
    clear hc hA
    obtain ⟨cur, hcur⟩ : ∃ cur, fillF putI ink (sidesL ms) zs = cur := ⟨_, rfl⟩
    have HCUR : Aside (fillF putS ink (sidesL ms) zs = cur) := (fillF_same ink (sidesL ms) A.out.2.2.2.1).1.trans hcur
    have hlen : cur.length = 64 := by rw [← hcur]; exact (fillF_same ink (sidesL ms) A.out.2.2.2.1).2.1
    rw [hcur] at HV
    clear hcur
    go_enter Try.func7, Try.ntmps7
    go_wp2_with (first | (refine Mem.wpList_box HM rfl rfl rfl rfl ?_; clear HM; intro p1 W1 hb1 HM) | (clear tk1; refine Mem.wpList_alloc HM rfl rfl hz rfl ?_; clear HM; intro p2 W2 hb2 HM; have HM1 : Aside (Mem w W2 [] [(p2, rU zero64), (p1, rU zs)]) := HM; clear HM) | (go_at_call 30; refine (l06LoopS _ ms _ (A.out.1.below HM1.out.below) A.out.2.1 A.out.2.2.2.2).mono ?_; rintro e w' ⟨_, rfl, rfl, hb⟩; rw [HC.out]; have HM2 : Aside (Mem w w' [] [(p2, rU zero64), (p1, rU zs)]) := HM1.out.call hb; clear hb) | (go_at_call 31; refine (l06FillS p1 zs _ ms ink w _ (Mem.swap2 HM2.out) A.out.2.2.1 A.out.1 h2 H16.out).mono ?_; rintro e w3 ⟨rfl, L, hM3, hL3⟩; obtain ⟨L2, hM4⟩ := second hM3 (hL3 (p2, rU zero64) (.head _)); have HM4 : Mem w w3 [] ((p1, rU cur) :: (p2, rU zero64) :: L2) := (by (have h9 := hM4; rw [HCUR.out] at h9; exact h9)); clear hM3 hL3 hM4) | (refine Mem.wpList_load_row HM4 64 rfl rfl rfl row_sheet (.inl (.head _)) (sub_all (by rw [rU_len]; exact hlen)) (by rw [rU_len]; exact hlen) ?_) | (refine wpList_store (b := p2) (off := 0) (cs := rU zero64) (vs := rU cur) HM4 1 rfl rfl rfl rfl rfl rfl (by rw [rU_len, hlen]; exact info_sheet) (oneU cur) (Nat.ble_eq_true_of_le (by rw [rU_len, rU_len, hlen]; decide)) ?_; intro w4 hM4))
    have HM5 : Mem w w4 [] ((p1, rU cur) :: (p2, rU cur) :: L2) := by
      have h := hM4
      rw [splice_all (by rw [rU_len, rU_len, hlen]; rfl)] at h
      exact h
    refine bodyPost_ret (Mem.results2 Try.results7 (Mem.fetch_row HM5 64 rfl row_sheet (.inl (.tail _ (.head _))) (sub_all (by rw [rU_len]; exact hlen)) (by rw [rU_len]; exact hlen)) (Mem.fetch_tmp (v := .int .i64 0) rfl)) rfl ?_
    exact ⟨_, rfl, by show _ = fillV zs ms ink; rw [HV.out], HM5.below⟩
  · have HC : Aside (codeL ms = 1) := hc
    rw [hc, if_neg (by decide)] at HV
    clear hc
    go_enter Try.func7, Try.ntmps7
    go_wp2_with (first | (refine Mem.wpList_box HM rfl rfl rfl rfl ?_; clear HM; intro p1 W1 hb1 HM) | (clear tk1; refine Mem.wpList_alloc HM rfl rfl hz rfl ?_; clear HM; intro p2 W2 hb2 HM; have HM1 : Aside (Mem w W2 [] [(p2, rU zero64), (p1, rU zs)]) := HM; clear HM) | (go_at_call 30; refine (l06LoopS _ ms _ (A.out.1.below HM1.out.below) A.out.2.1 A.out.2.2.2.2).mono ?_; rintro e w' ⟨_, rfl, rfl, hb⟩; rw [HC.out]; have HM2 : Aside (Mem w w' [] [(p2, rU zero64), (p1, rU zs)]) := HM1.out.call hb; clear hb) | (refine wpList_store (b := p2) (off := 0) (cs := rU zero64) (vs := rU zero64) HM2.out 0 rfl rfl rfl rfl rfl rfl info_sheet (oneU _) (by kernel_rfl) ?_; intro w3 hM3))
    have HM5 : Mem w w3 [] [(p2, rU zero64), (p1, rU zs)] := by
      have h := hM3
      rw [splice_all rfl] at h
      exact h
    refine bodyPost_ret (Mem.results2 Try.results7 (Mem.fetch_row HM5 64 rfl row_sheet (.inl (.head _)) (sub_all (by rw [rU_len]; rfl)) (by rw [rU_len]; rfl)) (Mem.fetch_tmp (v := .int .i64 1) rfl)) rfl ?_
    exact ⟨_, rfl, by show _ = fillV zs ms ink; rw [HV.out], HM5.below⟩
  · have HC : Aside (codeL ms = 2) := hc
    rw [hc, if_neg (by decide)] at HV
    clear hc
    go_enter Try.func7, Try.ntmps7
    go_wp2_with (first | (refine Mem.wpList_box HM rfl rfl rfl rfl ?_; clear HM; intro p1 W1 hb1 HM) | (clear tk1; refine Mem.wpList_alloc HM rfl rfl hz rfl ?_; clear HM; intro p2 W2 hb2 HM; have HM1 : Aside (Mem w W2 [] [(p2, rU zero64), (p1, rU zs)]) := HM; clear HM) | (go_at_call 30; refine (l06LoopS _ ms _ (A.out.1.below HM1.out.below) A.out.2.1 A.out.2.2.2.2).mono ?_; rintro e w' ⟨_, rfl, rfl, hb⟩; rw [HC.out]; have HM2 : Aside (Mem w w' [] [(p2, rU zero64), (p1, rU zs)]) := HM1.out.call hb; clear hb) | (refine wpList_store (b := p2) (off := 0) (cs := rU zero64) (vs := rU zero64) HM2.out 0 rfl rfl rfl rfl rfl rfl info_sheet (oneU _) (by kernel_rfl) ?_; intro w3 hM3))
    have HM5 : Mem w w3 [] [(p2, rU zero64), (p1, rU zs)] := by
      have h := hM3
      rw [splice_all rfl] at h
      exact h
    refine bodyPost_ret (Mem.results2 Try.results7 (Mem.fetch_row HM5 64 rfl row_sheet (.inl (.head _)) (sub_all (by rw [rU_len]; rfl)) (by rw [rU_len]; rfl)) (Mem.fetch_tmp (v := .int .i64 2) rfl)) rfl ?_
    exact ⟨_, rfl, by show _ = fillV zs ms ink; rw [HV.out], HM5.below⟩
--## d
end Go.Proofs.Ytbhbdpcefgledaa
