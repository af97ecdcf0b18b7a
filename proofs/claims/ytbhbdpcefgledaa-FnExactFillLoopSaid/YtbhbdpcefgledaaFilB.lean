/- Contracts: crossings to the right of a mark, the sides of a loop, the filling of a loop (program). -/
import Derived.Test.YtbhbdpcefgledaaFilA
namespace Go.Proofs.Ytbhbdpcefgledaa
--## d
open Go.Inv
--## d
open Go.ChangeShapes Go.WideShapes Go.ChangeAt Go.RowKit Go.Flo Go.Mem
set_option linter.unusedSimpArgs false
set_option linter.unusedVariables false
set_option maxRecDepth 20000
--## d
set_option maxHeartbeats 4000000 in
theorem crossesRightI (s : S5) (x y : Int) (hwf : wfK s) (hx : 0 ≤ x ∧ x ≤ 63) (hy : 0 ≤ y ∧ y ≤ 63) (w : World) : Calls Try.prog 82 #[st s.1 s.2.1 s.2.2.1 s.2.2.2.1 s.2.2.2.2, mk x y] w (Gives (isB (crs s x y)) w) := by
  have HW : Aside (wfK s) := hwf
  have HY : Aside (I16 x ∧ I16 y) := ⟨⟨by omega, by omega⟩, ⟨by omega, by omega⟩⟩
  obtain ⟨⟨a1, a2⟩, ⟨b1, b2⟩, ⟨c1, c2⟩, ⟨d1, d2⟩, _⟩ := hwf
  obtain ⟨x1, x2⟩ := hx
  obtain ⟨y1, y2⟩ := hy
  have hw := wrap_sub (mul_bd (a := s.2.2.1 - s.1) (b := y - s.2.1) (by omega) (by omega)) (mul_bd (a := x - s.1) (b := s.2.2.2.1 - s.2.1) (by omega) (by omega))
  have HC : Aside (crs s x y = (crsX s y && (if 0 < s.2.2.2.1 - s.2.1 then decide (0 < crsD s x y) else decide (crsD s x y < 0)))) := rfl
  have HD : Aside ((s.2.2.1 - s.1) * (y - s.2.1) - (x - s.1) * (s.2.2.2.1 - s.2.1) = crsD s x y) := rfl
  generalize crsD s x y = D at HD HC
  have HM0 := Mem.start w
  have tk0 : True := trivial
  cases hX : crsX s y
  · rw [hX] at HC
    simp only [Bool.false_and] at HC
    go_enter Try.func82, Try.ntmps82
    go_wp2_with (first | (clear tk0; refine Mem.wpList_box HM0 rfl rfl rfl rfl ?_; clear HM0; intro p1 Wa hb1 HMa) | (refine Mem.wpList_box HMa rfl rfl rfl rfl ?_; clear HMa; intro p2 Wb hb2 HMb; have HM1 : Mem w Wb [] [(p2, [.int .i16 x, .int .i16 y]), (p1, [.int .i16 s.1, .int .i16 s.2.1, .int .i16 s.2.2.1, .int .i16 s.2.2.2.1, .int .i8 s.2.2.2.2])] := HMb; clear HMb) | (refine Mem.wpList_load_row HM1 5 rfl rfl rfl (by kernel_rfl) (.inl (.tail _ (.head _))) rfl rfl ?_) | (refine Mem.wpList_load_one HM1 rfl rfl rfl (by kernel_rfl) (.inl (.head _)) (v := .int .i16 y) rfl ?_) | (go_at_call 91; refine (crossesI s y HW.out _).mono ?_; rw [hX]; rintro e w3 ⟨_, rfl, rfl, hb3⟩; have HM2 := HM1.call hb3; clear HM1))
    simp [bodyPost, results, Try.results82, go_sem]
    exact ⟨_, rfl, by rw [HC.out]; rfl, HM2.below⟩
  · rw [hX] at HC
    simp only [Bool.true_and] at HC
    have Hw := Lib.hid hw
    clear hw
    go_enter Try.func82, Try.ntmps82
    go_wp2_with (first | (clear tk0; refine Mem.wpList_box HM0 rfl rfl rfl rfl ?_; clear HM0; intro p1 Wa hb1 HMa) | (refine Mem.wpList_box HMa rfl rfl rfl rfl ?_; clear HMa; intro p2 Wb hb2 HMb; have HM1 : Mem w Wb [] [(p2, [.int .i16 x, .int .i16 y]), (p1, [.int .i16 s.1, .int .i16 s.2.1, .int .i16 s.2.2.1, .int .i16 s.2.2.2.1, .int .i8 s.2.2.2.2])] := HMb; clear HMb) | (refine Mem.wpList_load_row HM1 5 rfl rfl rfl (by kernel_rfl) (.inl (.tail _ (.head _))) rfl rfl ?_) | (refine Mem.wpList_load_one HM1 rfl rfl rfl (by kernel_rfl) (.inl (.head _)) (v := .int .i16 y) rfl ?_) | (go_at_call 91; refine (crossesI s y HW.out _).mono ?_; rw [hX]; rintro e w3 ⟨_, rfl, rfl, hb3⟩; have HM2 := HM1.call hb3; clear HM1))
    clear hX
    obtain ⟨W, hWW⟩ : ∃ W, W = w3 := ⟨_, rfl⟩
    rw [← hWW] at HM2 ⊢
    clear hWW hb3
    have HM : Mem w W [] [(p2, [.int .i16 x, .int .i16 y]), (p1, [.int .i16 s.1, .int .i16 s.2.1, .int .i16 s.2.2.1, .int .i16 s.2.2.2.1, .int .i8 s.2.2.2.2])] := HM2
    clear HM2
    refine Inv.wp_region_flow (F := fun L v W => Mem w W [] [(p2, [.int .i16 x, .int .i16 y]), (p1, [.int .i16 s.1, .int .i16 s.2.1, .int .i16 s.2.2.1, .int .i16 s.2.2.2.1, .int .i8 s.2.2.2.2])] ∧ (L 0 = true → (v 0) = .pointer (some ⟨p1, 2, none⟩)) ∧ (L 1 = true → (v 1) = .agg #[.int .i16 s.2.2.1, .int .i16 s.2.2.2.1]) ∧ (L 2 = true → (v 2) = .pointer (some ⟨p1, 0, none⟩)) ∧ (L 3 = true → (v 3) = .agg #[.int .i16 s.1, .int .i16 s.2.1]) ∧ (L 4 = true → (v 4) = .agg #[.int .i64 (s.2.2.1 - s.1), .int .i64 (s.2.2.2.1 - s.2.1)]) ∧ (L 5 = true → (v 5) = .agg #[.int .i16 x, .int .i16 y]) ∧ (L 6 = true → (v 6) = .pointer (some ⟨p1, 0, none⟩)) ∧ (L 7 = true → (v 7) = .agg #[.int .i16 s.1, .int .i16 s.2.1]) ∧ (L 8 = true → (v 8) = .agg #[.int .i64 (x - s.1), .int .i64 (y - s.2.1)]) ∧ (L 9 = true → Box w W [(p2, [.int .i16 x, .int .i16 y]), (p1, [.int .i16 s.1, .int .i16 s.2.1, .int .i16 s.2.2.1, .int .i16 s.2.2.2.1, .int .i8 s.2.2.2.2])] 2 (v 9)) ∧ (L 10 = true → Box w W [(p2, [.int .i16 x, .int .i16 y]), (p1, [.int .i16 s.1, .int .i16 s.2.1, .int .i16 s.2.2.1, .int .i16 s.2.2.2.1, .int .i8 s.2.2.2.2])] 2 (v 10)) ∧ (L 11 = true → L 9 = true ∧ Full w W [(p2, [.int .i16 x, .int .i16 y]), (p1, [.int .i16 s.1, .int .i16 s.2.1, .int .i16 s.2.2.1, .int .i16 s.2.2.2.1, .int .i8 s.2.2.2.2])] 2 (v 9) (.agg #[.int .i64 (s.2.2.1 - s.1), .int .i64 (s.2.2.2.1 - s.2.1)])) ∧ (L 12 = true → L 10 = true ∧ Full w W [(p2, [.int .i16 x, .int .i16 y]), (p1, [.int .i16 s.1, .int .i16 s.2.1, .int .i16 s.2.2.1, .int .i16 s.2.2.2.1, .int .i8 s.2.2.2.2])] 2 (v 10) (.agg #[.int .i64 (x - s.1), .int .i64 (y - s.2.1)])) ∧ (L 9 = true → L 10 = true → (v 9) ≠ (v 10))) (by kernel_rfl) (by kernel_rfl) (by kernel_rfl) (fun v => ⟨HM.drew, fun h => absurd h Bool.false_ne_true, fun h => absurd h Bool.false_ne_true, fun h => absurd h Bool.false_ne_true, fun h => absurd h Bool.false_ne_true, fun h => absurd h Bool.false_ne_true, fun h => absurd h Bool.false_ne_true, fun h => absurd h Bool.false_ne_true, fun h => absurd h Bool.false_ne_true, fun h => absurd h Bool.false_ne_true, fun h => absurd h Bool.false_ne_true, fun h => absurd h Bool.false_ne_true, fun h => absurd h Bool.false_ne_true, fun h => absurd h Bool.false_ne_true, fun h => absurd h Bool.false_ne_true⟩) ⟨?_, ?_, ?_, ?_, ?_, ?_, ?_, ?_, ?_, ?_, ?_, ?_, ?_, trivial⟩ ?_
    · intro L v W aAct hF hn hd hin hout K hK
      obtain ⟨HM, f0, f1, f2, f3, f4, f5, f6, f7, f8, f9, f10, f11, f12, q9_10⟩ := hF
      rw [if_pos (by rfl)]
      exact Inv.wp_fieldAddr (u := .pointer (some ⟨p1, 2, none⟩)) rfl ((hout 2 rfl).trans rfl) (fun _ => by kernel_rfl) (hK.out _ W ⟨HM, fun _ => rfl, f1, f2, f3, f4, f5, f6, f7, f8, f9, f10, f11, f12, q9_10⟩)
    · intro L v W aAct hF hn hd hin hout K hK
      obtain ⟨HM, f0, f1, f2, f3, f4, f5, f6, f7, f8, f9, f10, f11, f12, q9_10⟩ := hF
      have D0 : L 0 = true := hd ⟨0, Go.Ground.data⟩ (by simp) rfl
      rw [if_pos (by rfl)]
      have E0 : v 0 = .pointer (some ⟨p1, 2, none⟩) := f0 D0
      exact Mem.wp_load_row HM 2 rfl ((hin 0 _ _ rfl rfl).trans E0) (by kernel_rfl) (.inl (.tail _ (.head _))) rfl rfl (hK.out _ W ⟨HM, f0, fun _ => rfl, f2, f3, f4, f5, f6, f7, f8, f9, f10, f11, f12, q9_10⟩)
    · intro L v W aAct hF hn hd hin hout K hK
      obtain ⟨HM, f0, f1, f2, f3, f4, f5, f6, f7, f8, f9, f10, f11, f12, q9_10⟩ := hF
      rw [if_pos (by rfl)]
      exact Inv.wp_fieldAddr (u := .pointer (some ⟨p1, 0, none⟩)) rfl ((hout 2 rfl).trans rfl) (fun _ => by kernel_rfl) (hK.out _ W ⟨HM, f0, f1, fun _ => rfl, f3, f4, f5, f6, f7, f8, f9, f10, f11, f12, q9_10⟩)
    · intro L v W aAct hF hn hd hin hout K hK
      obtain ⟨HM, f0, f1, f2, f3, f4, f5, f6, f7, f8, f9, f10, f11, f12, q9_10⟩ := hF
      have D2 : L 2 = true := hd ⟨2, Go.Ground.data⟩ (by simp) rfl
      rw [if_pos (by rfl)]
      have E2 : v 2 = .pointer (some ⟨p1, 0, none⟩) := f2 D2
      exact Mem.wp_load_row HM 2 rfl ((hin 2 _ _ rfl rfl).trans E2) (by kernel_rfl) (.inl (.tail _ (.head _))) rfl rfl (hK.out _ W ⟨HM, f0, f1, f2, fun _ => rfl, f4, f5, f6, f7, f8, f9, f10, f11, f12, q9_10⟩)
    · intro L v W aAct hF hn hd hin hout K hK
      obtain ⟨HM, f0, f1, f2, f3, f4, f5, f6, f7, f8, f9, f10, f11, f12, q9_10⟩ := hF
      have D1 : L 1 = true := hd ⟨1, Go.Ground.data⟩ (by simp) rfl
      have D3 : L 3 = true := hd ⟨3, Go.Ground.data⟩ (by simp) rfl
      rw [if_pos (by rfl)]
      have E1 : v 1 = .agg #[.int .i16 s.2.2.1, .int .i16 s.2.2.2.1] := f1 D1
      have E3 : v 3 = .agg #[.int .i16 s.1, .int .i16 s.2.1] := f3 D3
      refine Inv.wp_call rfl rfl rfl #[.agg #[.int .i16 s.2.2.1, .int .i16 s.2.2.2.1], .agg #[.int .i16 s.1, .int .i16 s.2.1]] (by simp only [List.map_toArray, List.map_cons, List.map_nil, ((hin 1 _ _ rfl rfl).trans E1), ((hin 3 _ _ rfl rfl).trans E3)]) (by kernel_rfl) ((lessI s.2.2.1 s.2.2.2.1 s.1 s.2.1 HW.out.2.2.1 HW.out.2.2.2.1 HW.out.1 HW.out.2.1 W).mono ?_)
      rintro e W' ⟨_, rfl, rfl, hb⟩
      exact ⟨_, rfl, hK.out _ W' ⟨(HM.call hb), f0, f1, f2, f3, fun _ => rfl, f5, f6, f7, f8, fun h => Box.call (f9 h) hb, fun h => Box.call (f10 h) hb, fun h => ⟨(f11 h).1, Full.call (f11 h).2 hb⟩, fun h => ⟨(f12 h).1, Full.call (f12 h).2 hb⟩, q9_10⟩⟩
    · intro L v W aAct hF hn hd hin hout K hK
      obtain ⟨HM, f0, f1, f2, f3, f4, f5, f6, f7, f8, f9, f10, f11, f12, q9_10⟩ := hF
      rw [if_pos (by rfl)]
      exact Mem.wp_load_row HM 2 rfl ((hout 3 rfl).trans rfl) (by kernel_rfl) (.inl (.head _)) rfl rfl (hK.out _ W ⟨HM, f0, f1, f2, f3, f4, fun _ => rfl, f6, f7, f8, f9, f10, f11, f12, q9_10⟩)
    · intro L v W aAct hF hn hd hin hout K hK
      obtain ⟨HM, f0, f1, f2, f3, f4, f5, f6, f7, f8, f9, f10, f11, f12, q9_10⟩ := hF
      rw [if_pos (by rfl)]
      exact Inv.wp_fieldAddr (u := .pointer (some ⟨p1, 0, none⟩)) rfl ((hout 2 rfl).trans rfl) (fun _ => by kernel_rfl) (hK.out _ W ⟨HM, f0, f1, f2, f3, f4, f5, fun _ => rfl, f7, f8, f9, f10, f11, f12, q9_10⟩)
    · intro L v W aAct hF hn hd hin hout K hK
      obtain ⟨HM, f0, f1, f2, f3, f4, f5, f6, f7, f8, f9, f10, f11, f12, q9_10⟩ := hF
      have D6 : L 6 = true := hd ⟨6, Go.Ground.data⟩ (by simp) rfl
      rw [if_pos (by rfl)]
      have E6 : v 6 = .pointer (some ⟨p1, 0, none⟩) := f6 D6
      exact Mem.wp_load_row HM 2 rfl ((hin 6 _ _ rfl rfl).trans E6) (by kernel_rfl) (.inl (.tail _ (.head _))) rfl rfl (hK.out _ W ⟨HM, f0, f1, f2, f3, f4, f5, f6, fun _ => rfl, f8, f9, f10, f11, f12, q9_10⟩)
    · intro L v W aAct hF hn hd hin hout K hK
      obtain ⟨HM, f0, f1, f2, f3, f4, f5, f6, f7, f8, f9, f10, f11, f12, q9_10⟩ := hF
      have D5 : L 5 = true := hd ⟨5, Go.Ground.data⟩ (by simp) rfl
      have D7 : L 7 = true := hd ⟨7, Go.Ground.data⟩ (by simp) rfl
      have D4 : L 4 = true := hd ⟨4, Go.Ground.chain⟩ (by simp) rfl
      rw [if_pos (by rfl)]
      have E5 : v 5 = .agg #[.int .i16 x, .int .i16 y] := f5 D5
      have E7 : v 7 = .agg #[.int .i16 s.1, .int .i16 s.2.1] := f7 D7
      refine Inv.wp_call rfl rfl rfl #[.agg #[.int .i16 x, .int .i16 y], .agg #[.int .i16 s.1, .int .i16 s.2.1]] (by simp only [List.map_toArray, List.map_cons, List.map_nil, ((hin 5 _ _ rfl rfl).trans E5), ((hin 7 _ _ rfl rfl).trans E7)]) (by kernel_rfl) ((lessI x y s.1 s.2.1 HY.out.1 HY.out.2 HW.out.1 HW.out.2.1 W).mono ?_)
      rintro e W' ⟨_, rfl, rfl, hb⟩
      exact ⟨_, rfl, hK.out _ W' ⟨(HM.call hb), f0, f1, f2, f3, f4, f5, f6, f7, fun _ => rfl, fun h => Box.call (f9 h) hb, fun h => Box.call (f10 h) hb, fun h => ⟨(f11 h).1, Full.call (f11 h).2 hb⟩, fun h => ⟨(f12 h).1, Full.call (f12 h).2 hb⟩, q9_10⟩⟩
    · intro L v W aAct hF hn hd hin hout K hK
      obtain ⟨HM, f0, f1, f2, f3, f4, f5, f6, f7, f8, f9, f10, f11, f12, q9_10⟩ := hF
      rw [if_pos (by rfl)]
      refine Mem.wp_alloc_box (v := .agg #[.int .i64 0, .int .i64 0]) (n := 2) HM rfl (fun _ => by kernel_rfl) rfl fun u W' HM' hb hB hne => ?_
      exact hK.out _ W' ⟨HM', f0, f1, f2, f3, f4, f5, f6, f7, f8, fun _ => hB, fun h => Box.call (f10 h) hb, fun h => absurd (f11 h).1 (by rw [hn]; exact Bool.false_ne_true), fun h => ⟨(f12 h).1, Full.call (f12 h).2 hb⟩, fun _ hb => (hne _ _ (f10 hb)).symm⟩
    · intro L v W aAct hF hn hd hin hout K hK
      obtain ⟨HM, f0, f1, f2, f3, f4, f5, f6, f7, f8, f9, f10, f11, f12, q9_10⟩ := hF
      rw [if_pos (by rfl)]
      refine Mem.wp_alloc_box (v := .agg #[.int .i64 0, .int .i64 0]) (n := 2) HM rfl (fun _ => by kernel_rfl) rfl fun u W' HM' hb hB hne => ?_
      exact hK.out _ W' ⟨HM', f0, f1, f2, f3, f4, f5, f6, f7, f8, fun h => Box.call (f9 h) hb, fun _ => hB, fun h => ⟨(f11 h).1, Full.call (f11 h).2 hb⟩, fun h => absurd (f12 h).1 (by rw [hn]; exact Bool.false_ne_true), fun ha _ => hne _ _ (f9 ha)⟩
    · intro L v W aAct hF hn hd hin hout K hK
      obtain ⟨HM, f0, f1, f2, f3, f4, f5, f6, f7, f8, f9, f10, f11, f12, q9_10⟩ := hF
      have D9 : L 9 = true := hd ⟨9, Go.Ground.data⟩ (by simp) rfl
      have D4 : L 4 = true := hd ⟨4, Go.Ground.data⟩ (by simp) rfl
      have D8 : L 8 = true := hd ⟨8, Go.Ground.chain⟩ (by simp) rfl
      have D0 : L 0 = true := hd ⟨0, Go.Ground.phase⟩ (by simp) rfl
      have D1 : L 1 = true := hd ⟨1, Go.Ground.phase⟩ (by simp) rfl
      have D2 : L 2 = true := hd ⟨2, Go.Ground.phase⟩ (by simp) rfl
      have D3 : L 3 = true := hd ⟨3, Go.Ground.phase⟩ (by simp) rfl
      have D10 : L 10 = true := hd ⟨10, Go.Ground.phase⟩ (by simp) rfl
      rw [if_pos (by rfl)]
      have E4 : v 4 = .agg #[.int .i64 (s.2.2.1 - s.1), .int .i64 (s.2.2.2.1 - s.2.1)] := f4 D4
      refine Mem.wp_store_box (n := 2) HM (f9 D9) rfl (hin 9 _ _ rfl rfl) ((hin 4 _ _ rfl rfl).trans E4) rfl (by kernel_rfl) rfl fun W' HM' hF t1 t2 => ?_
      exact hK.out _ W' ⟨HM', f0, f1, f2, f3, f4, f5, f6, f7, f8, fun h => t1 _ _ ((f9 h)), fun h => t1 _ _ ((f10 h)), fun _ => ⟨D9, hF⟩, fun h => ⟨(f12 h).1, t2 _ _ _ ((f12 h).2) (q9_10 D9 (f12 h).1).symm⟩, q9_10⟩
    · intro L v W aAct hF hn hd hin hout K hK
      obtain ⟨HM, f0, f1, f2, f3, f4, f5, f6, f7, f8, f9, f10, f11, f12, q9_10⟩ := hF
      have D10 : L 10 = true := hd ⟨10, Go.Ground.data⟩ (by simp) rfl
      have D8 : L 8 = true := hd ⟨8, Go.Ground.data⟩ (by simp) rfl
      have D11 : L 11 = true := hd ⟨11, Go.Ground.chain⟩ (by simp) rfl
      have D0 : L 0 = true := hd ⟨0, Go.Ground.phase⟩ (by simp) rfl
      have D1 : L 1 = true := hd ⟨1, Go.Ground.phase⟩ (by simp) rfl
      have D2 : L 2 = true := hd ⟨2, Go.Ground.phase⟩ (by simp) rfl
      have D3 : L 3 = true := hd ⟨3, Go.Ground.phase⟩ (by simp) rfl
      have D4 : L 4 = true := hd ⟨4, Go.Ground.phase⟩ (by simp) rfl
      have D5 : L 5 = true := hd ⟨5, Go.Ground.phase⟩ (by simp) rfl
      have D6 : L 6 = true := hd ⟨6, Go.Ground.phase⟩ (by simp) rfl
      have D7 : L 7 = true := hd ⟨7, Go.Ground.phase⟩ (by simp) rfl
      have D9 : L 9 = true := hd ⟨9, Go.Ground.phase⟩ (by simp) rfl
      rw [if_pos (by rfl)]
      have E8 : v 8 = .agg #[.int .i64 (x - s.1), .int .i64 (y - s.2.1)] := f8 D8
      refine Mem.wp_store_box (n := 2) HM (f10 D10) rfl (hin 10 _ _ rfl rfl) ((hin 8 _ _ rfl rfl).trans E8) rfl (by kernel_rfl) rfl fun W' HM' hF t1 t2 => ?_
      exact hK.out _ W' ⟨HM', f0, f1, f2, f3, f4, f5, f6, f7, f8, fun h => t1 _ _ ((f9 h)), fun h => t1 _ _ ((f10 h)), fun h => ⟨(f11 h).1, t2 _ _ _ ((f11 h).2) (q9_10 (f11 h).1 D10)⟩, fun _ => ⟨D10, hF⟩, q9_10⟩
    clear HM
    intro L v W2 hL hF
    obtain ⟨HM, f0, f1, f2, f3, f4, f5, f6, f7, f8, f9, f10, f11, f12, q9_10⟩ := hF
    have D0 : L 0 = true := hL 0 rfl
    have D1 : L 1 = true := hL 1 rfl
    have D2 : L 2 = true := hL 2 rfl
    have D3 : L 3 = true := hL 3 rfl
    have D4 : L 4 = true := hL 4 rfl
    have D5 : L 5 = true := hL 5 rfl
    have D6 : L 6 = true := hL 6 rfl
    have D7 : L 7 = true := hL 7 rfl
    have D8 : L 8 = true := hL 8 rfl
    have D9 : L 9 = true := hL 9 rfl
    have D10 : L 10 = true := hL 10 rfl
    have D11 : L 11 = true := hL 11 rfl
    have D12 : L 12 = true := hL 12 rfl
    have E0 : v 0 = .pointer (some ⟨p1, 2, none⟩) := f0 D0
    have E1 : v 1 = .agg #[.int .i16 s.2.2.1, .int .i16 s.2.2.2.1] := f1 D1
    have E2 : v 2 = .pointer (some ⟨p1, 0, none⟩) := f2 D2
    have E3 : v 3 = .agg #[.int .i16 s.1, .int .i16 s.2.1] := f3 D3
    have E4 : v 4 = .agg #[.int .i64 (s.2.2.1 - s.1), .int .i64 (s.2.2.2.1 - s.2.1)] := f4 D4
    have E5 : v 5 = .agg #[.int .i16 x, .int .i16 y] := f5 D5
    have E6 : v 6 = .pointer (some ⟨p1, 0, none⟩) := f6 D6
    have E7 : v 7 = .agg #[.int .i16 s.1, .int .i16 s.2.1] := f7 D7
    have E8 : v 8 = .agg #[.int .i64 (x - s.1), .int .i64 (y - s.2.1)] := f8 D8
    obtain ⟨ga9, E9, HM⟩ := HM.add ((f11 D11).2)
    obtain ⟨ga10, E10, HM⟩ := HM.add ((Full.past (n := 0) (v := undef) ((f12 D12).2) E9 (q9_10 D9 D10)))
    simp only [Inv.putAll, Act.put, List.setIfInBounds_toArray, List.set_cons_zero, List.set_cons_succ, E0, E1, E2, E3, E4, E5, E6, E7, E8, E9, E10]
    clear f0 f1 f2 f3 f4 f5 f6 f7 f8 f9 f10 f11 f12 q9_10 D0 D1 D2 D3 D4 D5 D6 D7 D8 D9 D10 D11 D12 hL E0 E1 E2 E3 E4 E5 E6 E7 E8 E9 E10
    obtain ⟨W, hWW⟩ : ∃ W, W = W2 := ⟨_, rfl⟩; subst hWW
    have HM : Mem w W [] [(ga10, [.int .i64 (x - s.1), .int .i64 (y - s.2.1)]), (ga9, [.int .i64 (s.2.2.1 - s.1), .int .i64 (s.2.2.2.1 - s.2.1)]), (p2, [.int .i16 x, .int .i16 y]), (p1, [.int .i16 s.1, .int .i16 s.2.1, .int .i16 s.2.2.1, .int .i16 s.2.2.2.1, .int .i8 s.2.2.2.2])] := HM
    by_cases hs : 0 < s.2.2.2.1 - s.2.1
    · rw [if_pos hs] at HC
      go_wp2_with (first | (refine Mem.wpList_load_one HM rfl rfl rfl (by kernel_rfl) (.inl (.head _)) (v := .int .i64 (x - s.1)) rfl ?_) | (refine Mem.wpList_load_one HM rfl rfl rfl (by kernel_rfl) (.inl (.head _)) (v := .int .i64 (y - s.2.1)) rfl ?_) | (refine Mem.wpList_load_one HM rfl rfl rfl (by kernel_rfl) (.inl (.tail _ (.head _))) (v := .int .i64 (s.2.2.1 - s.1)) rfl ?_) | (refine Mem.wpList_load_one HM rfl rfl rfl (by kernel_rfl) (.inl (.tail _ (.head _))) (v := .int .i64 (s.2.2.2.1 - s.2.1)) rfl ?_))
      all_goals
        simp [bodyPost, results, Try.results82, go_sem]
        exact ⟨_, rfl, by (have h1 := HD.out; have h2 := Hw.out; rw [HC.out]; show Value.bool _ = Value.bool _; congr 1; apply decide_eq_decide.2; omega), HM.below⟩
    · rw [if_neg hs] at HC
      go_wp2_with (first | (refine Mem.wpList_load_one HM rfl rfl rfl (by kernel_rfl) (.inl (.head _)) (v := .int .i64 (x - s.1)) rfl ?_) | (refine Mem.wpList_load_one HM rfl rfl rfl (by kernel_rfl) (.inl (.head _)) (v := .int .i64 (y - s.2.1)) rfl ?_) | (refine Mem.wpList_load_one HM rfl rfl rfl (by kernel_rfl) (.inl (.tail _ (.head _))) (v := .int .i64 (s.2.2.1 - s.1)) rfl ?_) | (refine Mem.wpList_load_one HM rfl rfl rfl (by kernel_rfl) (.inl (.tail _ (.head _))) (v := .int .i64 (s.2.2.2.1 - s.2.1)) rfl ?_))
      all_goals
        simp [bodyPost, results, Try.results82, go_sem]
        exact ⟨_, rfl, by (have h1 := HD.out; have h2 := Hw.out; rw [HC.out]; show Value.bool _ = Value.bool _; congr 1; apply decide_eq_decide.2; omega), HM.below⟩
--## d
set_option maxHeartbeats 4000000 in
theorem crossingsI (v : Value) (ss : List S5) (x y : Int) (hx : 0 ≤ x ∧ x ≤ 63) (hy : 0 ≤ y ∧ y ≤ 63) (w : World) (hP : Rls 5 w v (rK ss)) (hn : ss.length ≤ 1000) (hwf : ∀ s ∈ ss, wfK s) : Calls Try.prog 63 #[v, mk x y] w (Gives (isI ((cnt ss x y ss.length : Nat) : Int)) w) := by
  have A : Aside (Rls 5 w v (rK ss) ∧ ss.length ≤ 1000 ∧ (∀ s ∈ ss, wfK s) ∧ (0 ≤ x ∧ x ≤ 63) ∧ (0 ≤ y ∧ y ≤ 63)) := ⟨hP, hn, hwf, hx, hy⟩
  obtain ⟨a, c, rfl, _⟩ := hP
  rw [rK_len] at *
  clear hn hwf hx hy
  have HM0 := Mem.start w
  go_enter Try.func63, Try.ntmps63
  go_wp2_with (first | (refine Mem.wpList_box HM0 rfl rfl rfl rfl ?_; clear HM0; intro p1 W1 hb1 HMa; have HM1 : Aside (Mem w W1 [] [(p1, [.int .i16 x, .int .i16 y])]) := HMa; clear HMa))
  go_loopg [5, 10] ss.length (fun k s5 s10 wr => ∃ (i n : Nat), s10 = .int .i64 i ∧ s5 = .int .i64 n ∧ n = cnt ss x y i ∧ i + k = ss.length ∧ Mem w wr [] [(p1, [.int .i16 x, .int .i16 y])])
  · exact ⟨0, 0, rfl, rfl, by simp [cnt], by omega, HM1.out⟩
  · obtain ⟨i, n, rfl, rfl, hc, hik, hM⟩ := hrel
    have B : Aside (n = cnt ss x y i ∧ i + gk = ss.length ∧ Mem w wr [] [(p1, [.int .i16 x, .int .i16 y])]) := ⟨hc, hik, hM⟩
    clear hc
    by_cases hi : i < ss.length
    · obtain ⟨s, hs⟩ : ∃ s, ss[i]? = some s := ⟨ss[i], List.getElem?_eq_getElem hi⟩
      obtain ⟨b, c', e0, hbl, hcells⟩ := A.out.1.at (rK_get hs)
      rw [rK_len] at e0
      cases e0
      have hi' : (i : Int) < (ss.length : Int) := by omega
      have P0 : Aside (ss[i]? = some s ∧ wfK s) := ⟨hs, A.out.2.2.1 s (List.mem_of_getElem? hs)⟩
      have C : Aside ((b.add (i * 5)).block < wr.heap.size ∧ ∀ k x, [Value.int .i16 s.1, .int .i16 s.2.1, .int .i16 s.2.2.1, .int .i16 s.2.2.2.1, .int .i8 s.2.2.2.2][k]? = some x → wr.cell? ((b.add (i * 5)).add k) = some x) := ⟨Nat.lt_of_lt_of_le hbl hM.below.size, cells_later hM.below hbl hcells⟩
      have HCR : Aside (∀ w, Calls Try.prog 82 #[st s.1 s.2.1 s.2.2.1 s.2.2.2.1 s.2.2.2.2, mk x y] w (Gives (isB (crs s x y)) w)) := fun w => crossesRightI s x y P0.out.2 A.out.2.2.2.1 A.out.2.2.2.2 w
      have HCS : Aside (cnt ss x y (i + 1) = cnt ss x y i + (if crs s x y = true then 1 else 0)) := cnt_step hs
      have HLE : Aside (cnt ss x y (i + 1) ≤ i + 1) := cnt_le ss x y (i + 1)
      clear hcells hbl hs hik
      have tk1 : True := trivial
      cases hq : crs s x y
      all_goals
        rw [hq] at HCR HCS
        clear hq
        go_wp2_with (first
          | (refine wpList_idxR rfl rfl (by kernel_rfl) (by kernel_rfl) rfl rfl (Int.natCast_nonneg _) hi' ?_; simp only [Int.toNat_natCast])
          | (clear tk1; refine wpList_rowR rfl rfl (n := 5) (by kernel_rfl) rfl rfl C.out.2 ?_)
          | (refine Mem.wpList_alloc hM rfl rfl (fun _ => by kernel_rfl) (v := st 0 0 0 0 0) rfl ?_; clear hM; intro p2 W2 hb2 HMb)
          | (refine wpList_store (b := p2) (off := 0) (cs := _) (vs := [.int .i16 s.1, .int .i16 s.2.1, .int .i16 s.2.2.1, .int .i16 s.2.2.2.1, .int .i8 s.2.2.2.2]) HMb 0 rfl rfl rfl rfl rfl rfl (by kernel_rfl) rfl rfl ?_; clear HMb; intro w3 HMc; have HM3 : Mem w w3 [] [(p2, [.int .i16 s.1, .int .i16 s.2.1, .int .i16 s.2.2.1, .int .i16 s.2.2.2.1, .int .i8 s.2.2.2.2]), (p1, [.int .i16 x, .int .i16 y])] := HMc; clear HMc)
          | (refine Mem.wpList_load_row HM3 5 rfl rfl rfl (by kernel_rfl) (.inl (.head _)) rfl rfl ?_)
          | (refine Mem.wpList_load_row HM3 2 rfl rfl rfl (by kernel_rfl) (.inl (.tail _ (.head _))) rfl rfl ?_)
          | (go_at_call 82; refine (HCR.out _).mono ?_; rintro e w4 ⟨_, rfl, rfl, hb4⟩; have HM4 := HM3.call hb4; clear HM3))
        obtain ⟨hc, hik, hM⟩ := B.out
        have h1 := HCS.out
        have h2 := HLE.out
        have h3 := A.out.2.1
        simp only [if_true, Bool.false_eq_true, if_false] at h1
        go_roundg (gk - 1)
        · refine ⟨i + 1, cnt ss x y (i + 1), ?_, ?_, rfl, by omega, Mem.tail2 HM4⟩
          · first | (congr 1; done) | (congr 1; unfold wrap64; omega)
          · first | (congr 1; omega) | (congr 1; unfold wrap64; omega)
        · omega
    · have hi' : ¬ ((i : Int) < (ss.length : Int)) := by omega
      have hie : i = ss.length := by omega
      go_wp2_with fail
      simp [bodyPost, results, Try.results63, go_sem]
      exact ⟨_, rfl, by rw [B.out.1, hie]; rfl, hM.below⟩
--## d
end Go.Proofs.Ytbhbdpcefgledaa
