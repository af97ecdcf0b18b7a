--## law
/- The law FnExactHasInk: for every input the function HasInk answers as its model, and the law returns true. No condition. -/
import Derived.Test.YtpamgilkdkpcdaaOpen
import Derived.Test.YtpamgilkdkpcdaaShtH
import Derived.Test.YtpamgilkdkpcdaaShtE
import Derived.Test.YtpamgilkdkpcdaaLopn
import Derived.Test.YtpamgilkdkpcdaaFlw
namespace Go.Proofs.Ytpamgilkdkpcdaa.lawExactHasInk
open Go.Mem Go.ChangeShapes Go.WideShapes Go.ChangeAt Go.RowKit Go.Flo
open Go.ChangeMaps (open_string shut_string)
set_option linter.unusedSimpArgs false
set_option linter.unusedVariables false
set_option maxRecDepth 20000

open Go.Inv

set_option maxHeartbeats 4000000 in
theorem walk (z0 : List Int) (x1_0 x1_1 : Int) (w : World) (q0 : Sh z0) (q1 : I16 x1_0 ∧ I16 x1_1) :
    Calls Try.prog 3 #[.agg (shA z0), mk x1_0 x1_1] w (Gives (isB true) w) := by
  have HM := Mem.start w
  have tk0 : True := trivial
  go_enter Try.func3, Try.ntmps3
  go_wp2_with (first | (clear tk0; refine Mem.wpList_box HM rfl rfl rfl rfl ?_; clear HM; intro p1 W1 hb1 HM) | (refine Mem.wpList_box HM rfl rfl rfl rfl ?_; clear HM; intro p2 W hb2 HM))
  have HM : Mem w W [] [(p2, [.int .i16 x1_0, .int .i16 x1_1]), (p1, rU z0)] := HM
  refine Inv.wp_region_flow (F := fun L v W => Mem w W [] [(p2, [.int .i16 x1_0, .int .i16 x1_1]), (p1, rU z0)] ∧ (L 0 = true → (v 0) = .agg (shA z0)) ∧ (L 1 = true → (v 1) = .agg (shA z0)) ∧ (L 2 = true → (v 2) = .agg #[.int .i16 x1_0, .int .i16 x1_1]) ∧ (L 3 = true → (v 3) = .agg #[.int .i16 x1_0, .int .i16 x1_1]) ∧ (L 4 = true → (v 4) = .bool (inkB z0 x1_0 x1_1)) ∧ (L 5 = true → (v 5) = .bool (inkB z0 x1_0 x1_1))) (by kernel_rfl) (by kernel_rfl) (by kernel_rfl) (fun v => ⟨HM.drew, fun h => absurd h Bool.false_ne_true, fun h => absurd h Bool.false_ne_true, fun h => absurd h Bool.false_ne_true, fun h => absurd h Bool.false_ne_true, fun h => absurd h Bool.false_ne_true, fun h => absurd h Bool.false_ne_true⟩) ⟨?_, ?_, ?_, ?_, ?_, ?_, trivial⟩ ?_
  · intro L v W a1 hF hn hd hin hout K hK
    obtain ⟨HM, f0, f1, f2, f3, f4, f5⟩ := hF
    rw [if_pos (by rfl)]
    exact Mem.wp_load_row HM 64 rfl ((hout 2 rfl).trans rfl) (by kernel_rfl) (.inl (.tail _ (.head _))) (sub_all (by rw [rU_len]; exact q0.1)) (by rw [rU_len]; exact q0.1) (hK.out _ W ⟨HM, fun _ => rfl, f1, f2, f3, f4, f5⟩)
  · intro L v W a1 hF hn hd hin hout K hK
    obtain ⟨HM, f0, f1, f2, f3, f4, f5⟩ := hF
    have D0 : L 0 = true := hd ⟨0, Go.Ground.data⟩ (by simp) rfl
    rw [if_pos (by rfl)]
    have E0 : v 0 = .agg (shA z0) := f0 D0
    refine Inv.wp_call rfl rfl rfl #[.agg (shA z0)] (by simp only [List.map_toArray, List.map_cons, List.map_nil, ((hin 0 _ _ rfl rfl).trans E0)]) (by kernel_rfl) ((toSheetA z0 q0.1 W).mono ?_)
    rintro e W' ⟨_, rfl, rfl, hb⟩
    exact ⟨_, rfl, hK.out _ W' ⟨(HM.call hb), f0, fun _ => rfl, f2, f3, f4, f5⟩⟩
  · intro L v W a1 hF hn hd hin hout K hK
    obtain ⟨HM, f0, f1, f2, f3, f4, f5⟩ := hF
    rw [if_pos (by rfl)]
    exact Mem.wp_load_row HM 2 rfl ((hout 3 rfl).trans rfl) (by kernel_rfl) (.inl (.head _)) rfl rfl (hK.out _ W ⟨HM, f0, f1, fun _ => rfl, f3, f4, f5⟩)
  · intro L v W a1 hF hn hd hin hout K hK
    obtain ⟨HM, f0, f1, f2, f3, f4, f5⟩ := hF
    have D2 : L 2 = true := hd ⟨2, Go.Ground.data⟩ (by simp) rfl
    have D1 : L 1 = true := hd ⟨1, Go.Ground.chain⟩ (by simp) rfl
    rw [if_pos (by rfl)]
    have E2 : v 2 = .agg #[.int .i16 x1_0, .int .i16 x1_1] := f2 D2
    refine Inv.wp_call rfl rfl rfl #[.agg #[.int .i16 x1_0, .int .i16 x1_1]] (by simp only [List.map_toArray, List.map_cons, List.map_nil, ((hin 2 _ _ rfl rfl).trans E2)]) (by kernel_rfl) ((toMarkA x1_0 x1_1 W).mono ?_)
    rintro e W' ⟨_, rfl, rfl, hb⟩
    exact ⟨_, rfl, hK.out _ W' ⟨(HM.call hb), f0, f1, f2, fun _ => rfl, f4, f5⟩⟩
  · intro L v W a1 hF hn hd hin hout K hK
    obtain ⟨HM, f0, f1, f2, f3, f4, f5⟩ := hF
    have D1 : L 1 = true := hd ⟨1, Go.Ground.data⟩ (by simp) rfl
    have D3 : L 3 = true := hd ⟨3, Go.Ground.data⟩ (by simp) rfl
    rw [if_pos (by rfl)]
    have E1 : v 1 = .agg (shA z0) := f1 D1
    have E3 : v 3 = .agg #[.int .i16 x1_0, .int .i16 x1_1] := f3 D3
    refine Inv.wp_call rfl rfl rfl #[.agg (shA z0), .agg #[.int .i16 x1_0, .int .i16 x1_1]] (by simp only [List.map_toArray, List.map_cons, List.map_nil, ((hin 1 _ _ rfl rfl).trans E1), ((hin 3 _ _ rfl rfl).trans E3)]) (by kernel_rfl) ((HasInkS z0 x1_0 x1_1 W q0).mono ?_)
    rintro e W' ⟨_, rfl, rfl, hb⟩
    exact ⟨_, rfl, hK.out _ W' ⟨(HM.call hb), f0, f1, f2, f3, fun _ => rfl, f5⟩⟩
  · intro L v W a1 hF hn hd hin hout K hK
    obtain ⟨HM, f0, f1, f2, f3, f4, f5⟩ := hF
    have D4 : L 4 = true := hd ⟨4, Go.Ground.data⟩ (by simp) rfl
    have D0 : L 0 = true := hd ⟨0, Go.Ground.phase⟩ (by simp) rfl
    have D1 : L 1 = true := hd ⟨1, Go.Ground.phase⟩ (by simp) rfl
    have D2 : L 2 = true := hd ⟨2, Go.Ground.phase⟩ (by simp) rfl
    have D3 : L 3 = true := hd ⟨3, Go.Ground.phase⟩ (by simp) rfl
    rw [if_pos (by rfl)]
    have E4 : v 4 = .bool (inkB z0 x1_0 x1_1) := f4 D4
    exact Inv.wp_move (.inr rfl) ((hin 4 _ _ rfl rfl).trans E4) (hK.out _ W ⟨HM, f0, f1, f2, f3, f4, fun _ => rfl⟩)
  clear HM
  intro L v W2 hL hF
  obtain ⟨HM, f0, f1, f2, f3, f4, f5⟩ := hF
  have D0 : L 0 = true := hL 0 rfl
  have D1 : L 1 = true := hL 1 rfl
  have D2 : L 2 = true := hL 2 rfl
  have D3 : L 3 = true := hL 3 rfl
  have D4 : L 4 = true := hL 4 rfl
  have D5 : L 5 = true := hL 5 rfl
  have E0 : v 0 = .agg (shA z0) := f0 D0
  have E1 : v 1 = .agg (shA z0) := f1 D1
  have E2 : v 2 = .agg #[.int .i16 x1_0, .int .i16 x1_1] := f2 D2
  have E3 : v 3 = .agg #[.int .i16 x1_0, .int .i16 x1_1] := f3 D3
  have E4 : v 4 = .bool (inkB z0 x1_0 x1_1) := f4 D4
  have E5 : v 5 = .bool (inkB z0 x1_0 x1_1) := f5 D5
  simp only [Inv.putAll, Act.put, List.setIfInBounds_toArray, List.set_cons_zero, List.set_cons_succ, E0, E1, E2, E3, E4, E5]
  clear f0 f1 f2 f3 f4 f5 D0 D1 D2 D3 D4 D5 hL E0 E1 E2 E3 E4 E5
  obtain ⟨W, hWW⟩ : ∃ W, W = W2 := ⟨_, rfl⟩; subst hWW
  have HM : Mem w W [] [(p2, [.int .i16 x1_0, .int .i16 x1_1]), (p1, rU z0)] := HM
  go_wp2_with fail
  refine Inv.wp_region_flow (F := fun L v W => Mem w W [] [(p2, [.int .i16 x1_0, .int .i16 x1_1]), (p1, rU z0)] ∧ (L 0 = true → (v 0) = .agg (shA z0)) ∧ (L 1 = true → (v 1) = .agg (shA z0)) ∧ (L 2 = true → (v 2) = .agg #[.int .i16 x1_0, .int .i16 x1_1]) ∧ (L 3 = true → (v 3) = .agg #[.int .i16 x1_0, .int .i16 x1_1]) ∧ (L 4 = true → (v 4) = .bool (inkB z0 x1_0 x1_1)) ∧ (L 5 = true → (v 5) = .bool (inkB z0 x1_0 x1_1))) (by kernel_rfl) (by kernel_rfl) (by kernel_rfl) (fun v => ⟨HM.drew, fun h => absurd h Bool.false_ne_true, fun h => absurd h Bool.false_ne_true, fun h => absurd h Bool.false_ne_true, fun h => absurd h Bool.false_ne_true, fun h => absurd h Bool.false_ne_true, fun h => absurd h Bool.false_ne_true⟩) ⟨?_, ?_, ?_, ?_, ?_, ?_, trivial⟩ ?_
  · intro L v W a1 hF hn hd hin hout K hK
    obtain ⟨HM, f0, f1, f2, f3, f4, f5⟩ := hF
    rw [if_pos (by rfl)]
    exact Mem.wp_load_row HM 64 rfl ((hout 2 rfl).trans rfl) (by kernel_rfl) (.inl (.tail _ (.head _))) (sub_all (by rw [rU_len]; exact q0.1)) (by rw [rU_len]; exact q0.1) (hK.out _ W ⟨HM, fun _ => rfl, f1, f2, f3, f4, f5⟩)
  · intro L v W a1 hF hn hd hin hout K hK
    obtain ⟨HM, f0, f1, f2, f3, f4, f5⟩ := hF
    have D0 : L 0 = true := hd ⟨0, Go.Ground.data⟩ (by simp) rfl
    rw [if_pos (by rfl)]
    have E0 : v 0 = .agg (shA z0) := f0 D0
    refine Inv.wp_call rfl rfl rfl #[.agg (shA z0)] (by simp only [List.map_toArray, List.map_cons, List.map_nil, ((hin 0 _ _ rfl rfl).trans E0)]) (by kernel_rfl) ((toSheetA z0 q0.1 W).mono ?_)
    rintro e W' ⟨_, rfl, rfl, hb⟩
    exact ⟨_, rfl, hK.out _ W' ⟨(HM.call hb), f0, fun _ => rfl, f2, f3, f4, f5⟩⟩
  · intro L v W a1 hF hn hd hin hout K hK
    obtain ⟨HM, f0, f1, f2, f3, f4, f5⟩ := hF
    rw [if_pos (by rfl)]
    exact Mem.wp_load_row HM 2 rfl ((hout 3 rfl).trans rfl) (by kernel_rfl) (.inl (.head _)) rfl rfl (hK.out _ W ⟨HM, f0, f1, fun _ => rfl, f3, f4, f5⟩)
  · intro L v W a1 hF hn hd hin hout K hK
    obtain ⟨HM, f0, f1, f2, f3, f4, f5⟩ := hF
    have D2 : L 2 = true := hd ⟨2, Go.Ground.data⟩ (by simp) rfl
    have D1 : L 1 = true := hd ⟨1, Go.Ground.chain⟩ (by simp) rfl
    rw [if_pos (by rfl)]
    have E2 : v 2 = .agg #[.int .i16 x1_0, .int .i16 x1_1] := f2 D2
    refine Inv.wp_call rfl rfl rfl #[.agg #[.int .i16 x1_0, .int .i16 x1_1]] (by simp only [List.map_toArray, List.map_cons, List.map_nil, ((hin 2 _ _ rfl rfl).trans E2)]) (by kernel_rfl) ((toMarkA x1_0 x1_1 W).mono ?_)
    rintro e W' ⟨_, rfl, rfl, hb⟩
    exact ⟨_, rfl, hK.out _ W' ⟨(HM.call hb), f0, f1, f2, fun _ => rfl, f4, f5⟩⟩
  · intro L v W a1 hF hn hd hin hout K hK
    obtain ⟨HM, f0, f1, f2, f3, f4, f5⟩ := hF
    have D1 : L 1 = true := hd ⟨1, Go.Ground.data⟩ (by simp) rfl
    have D3 : L 3 = true := hd ⟨3, Go.Ground.data⟩ (by simp) rfl
    rw [if_pos (by rfl)]
    have E1 : v 1 = .agg (shA z0) := f1 D1
    have E3 : v 3 = .agg #[.int .i16 x1_0, .int .i16 x1_1] := f3 D3
    refine Inv.wp_call rfl rfl rfl #[.agg (shA z0), .agg #[.int .i16 x1_0, .int .i16 x1_1]] (by simp only [List.map_toArray, List.map_cons, List.map_nil, ((hin 1 _ _ rfl rfl).trans E1), ((hin 3 _ _ rfl rfl).trans E3)]) (by kernel_rfl) ((HasInkI z0 x1_0 x1_1 W q0).mono ?_)
    rintro e W' ⟨_, rfl, rfl, hb⟩
    exact ⟨_, rfl, hK.out _ W' ⟨(HM.call hb), f0, f1, f2, f3, fun _ => rfl, f5⟩⟩
  · intro L v W a1 hF hn hd hin hout K hK
    obtain ⟨HM, f0, f1, f2, f3, f4, f5⟩ := hF
    have D4 : L 4 = true := hd ⟨4, Go.Ground.data⟩ (by simp) rfl
    have D0 : L 0 = true := hd ⟨0, Go.Ground.phase⟩ (by simp) rfl
    have D1 : L 1 = true := hd ⟨1, Go.Ground.phase⟩ (by simp) rfl
    have D2 : L 2 = true := hd ⟨2, Go.Ground.phase⟩ (by simp) rfl
    have D3 : L 3 = true := hd ⟨3, Go.Ground.phase⟩ (by simp) rfl
    rw [if_pos (by rfl)]
    have E4 : v 4 = .bool (inkB z0 x1_0 x1_1) := f4 D4
    exact Inv.wp_move (.inr rfl) ((hin 4 _ _ rfl rfl).trans E4) (hK.out _ W ⟨HM, f0, f1, f2, f3, f4, fun _ => rfl⟩)
  clear HM
  intro L v W2 hL hF
  obtain ⟨HM, f0, f1, f2, f3, f4, f5⟩ := hF
  have D0 : L 0 = true := hL 0 rfl
  have D1 : L 1 = true := hL 1 rfl
  have D2 : L 2 = true := hL 2 rfl
  have D3 : L 3 = true := hL 3 rfl
  have D4 : L 4 = true := hL 4 rfl
  have D5 : L 5 = true := hL 5 rfl
  have E0 : v 0 = .agg (shA z0) := f0 D0
  have E1 : v 1 = .agg (shA z0) := f1 D1
  have E2 : v 2 = .agg #[.int .i16 x1_0, .int .i16 x1_1] := f2 D2
  have E3 : v 3 = .agg #[.int .i16 x1_0, .int .i16 x1_1] := f3 D3
  have E4 : v 4 = .bool (inkB z0 x1_0 x1_1) := f4 D4
  have E5 : v 5 = .bool (inkB z0 x1_0 x1_1) := f5 D5
  simp only [Inv.putAll, Act.put, List.setIfInBounds_toArray, List.set_cons_zero, List.set_cons_succ, E0, E1, E2, E3, E4, E5]
  clear f0 f1 f2 f3 f4 f5 D0 D1 D2 D3 D4 D5 hL E0 E1 E2 E3 E4 E5
  obtain ⟨W, hWW⟩ : ∃ W, W = W2 := ⟨_, rfl⟩; subst hWW
  have HM : Mem w W [] [(p2, [.int .i16 x1_0, .int .i16 x1_1]), (p1, rU z0)] := HM
  go_wp2_with fail
  all_goals
    simp [bodyPost, results, Try.results3, go_sem]
    exact ⟨_, rfl, rfl, HM.below⟩


set_option maxRecDepth 100000 in
theorem lifted (os : Os) (started : os.Started) (H : Type) (enc : TypeId × Value → H) :
    ReturnsInHanded {} Try.checked os 3 .any (Rows.fnExactHasInkSpec.pre6 enc Try.prog Try.f3 Rows.fnExactHasInkRow.domain false) (Rows.fnExactHasInkSpec.post enc Try.prog Try.f3 false true false false) := by
  refine returnsInHanded_of_change (C := Try.checked) own started (by kernel_rfl) Try.func3
    (ChangeSpec.witness6 (enc := enc) (C := Try.checked) false ⟨#[], #[.agg (shA (List.replicate 64 0)), mk 0 0], []⟩ 8 (by kernel_rfl) (by kernel_rfl) (by kernel_rfl) (by kernel_rfl)) ?_
  intro W base args ds gs before hval0 hW hcnd _
  have hval : ∀ (j : Nat) t v, Try.f3.params[j]? = some t → args[j]? = some v → Value.okWide Try.prog W .any base t v := hval0
  have hW' := hW
  obtain ⟨p, q, hA0, hV, rfl, hfz, hnd⟩ := hW
  have hA : DataW.TrodAll enc Try.prog W 0 (fun _ => true) true Try.f3.params.toList args.toList ds p := hA0
  rw [Try.params3] at hA hval
  obtain ⟨v0, vs0, d0, ds0, p0, q0, hargs, rfl, rfl, h0, r0⟩ := trodAll_cons hA
  obtain ⟨v1, vs1, d1, ds1, p1, q1, rfl, rfl, rfl, h1, r1⟩ := trodAll_cons r0
  obtain ⟨rfl, rfl, rfl⟩ := trodAll_nil r1
  obtain rfl : args = #[v0, v1] := by cases args; simp_all
  obtain ⟨rfl, rfl⟩ := trodVars_none hV
  have k0 := h0
  have lt0 := lt_of_trod h0
  obtain ⟨z0, rfl, w0⟩ := open_sheet (hval 0 23 v0 rfl rfl) h0
  have k1 := h1
  have lt1 := lt_of_trod h1
  obtain ⟨x1_0, x1_1, rfl, w1_0, w1_1⟩ := open_mark Try.underlying25 Try.underlying24 (by kernel_rfl) (by kernel_rfl) (hval 1 25 v1 rfl rfl) h1
  clear hA0 hval0
  refine (walk z0 x1_0 x1_1 W w0 ⟨w1_0, w1_1⟩).mono fun e W' hq => ?_
  obtain ⟨v, rfl, rfl, bel⟩ := hq
  exact ⟨_, rfl, _, _, _, [], _, [], hW', trodAll_mk1 (shut_bool Try.underlying4 _), (trodAll_cons_mk (Below.trod laidOut (by kernel_rfl) (of_decide_eq_true (by kernel_rfl)) k0 bel lt0) (trodAll_cons_mk (Below.trod laidOut (by kernel_rfl) (of_decide_eq_true (by kernel_rfl)) k1 bel lt1) trodAll_mk0)), rfl, bel.frame _, fun h => by cases h⟩

theorem over : Rows.fnExactHasInkRow.holds Try.pinned (OpenSpec.ofChange Rows.fnExactHasInkSpec) :=
  OpenClaim.holds_of_wide 3 Try.f3 rfl rfl rfl rfl rfl rfl rfl ⟨rfl, rfl, rfl, rfl, rfl⟩ rfl rfl rfl rfl rfl (by kernel_rfl) Try.func3 (by kernel_rfl)
    (of_decide_eq_true (by kernel_rfl)) (by unfold Func.isWrapper; rw [if_neg (of_decide_eq_false (by kernel_rfl))]; exact ⟨rfl, rfl⟩)
    (fun os started H enc _ => lifted os started H enc)

theorem proved : Rows.FnExactHasInkSaid := over

end Go.Proofs.Ytpamgilkdkpcdaa.lawExactHasInk
