/- The law FnExactTurnCamera: for every input the function TurnCamera answers as its model, and the law returns true. No condition. -/
import Derived.Test.YtkhnjcpigcghmaaOpen
import Derived.Test.YtkhnjcpigcghmaaSxS
import Derived.Test.YtkhnjcpigcghmaaOpn
namespace Go.Proofs.Ytkhnjcpigcghmaa.lawExactTurnCamera
open Go.Sx Go.ChangeShapes Go.WideShapes Go.ChangeAt Go.RowKit Go.Flo
open Go.ChangeMaps (open_string shut_string)
set_option linter.unusedSimpArgs false
set_option linter.unusedVariables false
structure Ck (t : Tb) : Prop where
  out : check Try.prog sums 60 30 12 [.p (.agg [.f32 0, .f32 1, .f32 2, .f32 3, .f32 4, .f32 5, .f32 6, .f32 7, .f32 8, .f32 9, .f32 10]), .p (.one (.f32 11))] topN t = true
structure Cp (l m : List Bool) : Prop where
  out : checkP Try.prog sums 60 30 12 [.p (.agg [.f32 0, .f32 1, .f32 2, .f32 3, .f32 4, .f32 5, .f32 6, .f32 7, .f32 8, .f32 9, .f32 10]), .p (.one (.f32 11))] topN (⟨12, vars 12, [], []⟩) l m = true
structure Ca (l : List Bool) : Prop where
  out : checkA Try.prog sums 60 30 12 [.p (.agg [.f32 0, .f32 1, .f32 2, .f32 3, .f32 4, .f32 5, .f32 6, .f32 7, .f32 8, .f32 9, .f32 10]), .p (.one (.f32 11))] topN (⟨12, vars 12, [], []⟩) l = true
set_option maxRecDepth 100000 in
set_option maxHeartbeats 100000000 in
theorem p0 : Cp [] [true, true, true, true, true, false, false, true, true, true, true, true] := ⟨by kernel_rfl⟩
set_option maxRecDepth 100000 in
set_option maxHeartbeats 100000000 in
theorem p1 : Cp [true, true, true, true, true, false, false, true, true, true, true, true] [true] := ⟨by kernel_rfl⟩
set_option maxRecDepth 100000 in
set_option maxHeartbeats 100000000 in
theorem p2 : Cp [true, true, true, true, true, false, false, true, true, true, true, true, true] [true] := ⟨by kernel_rfl⟩
set_option maxRecDepth 100000 in
set_option maxHeartbeats 100000000 in
theorem p3 : Cp [true, true, true, true, true, false, false, true, true, true, true, true, true, true] [true] := ⟨by kernel_rfl⟩
set_option maxRecDepth 100000 in
set_option maxHeartbeats 100000000 in
theorem a4 : Ca [true, true, true, true, true, false, false, true, true, true, true, true, true, true, true] := ⟨by kernel_rfl⟩
theorem a3 : Ca [true, true, true, true, true, false, false, true, true, true, true, true, true, true] := ⟨checkA_step p3.out a4.out⟩
theorem a2 : Ca [true, true, true, true, true, false, false, true, true, true, true, true, true] := ⟨checkA_step p2.out a3.out⟩
theorem a1 : Ca [true, true, true, true, true, false, false, true, true, true, true, true] := ⟨checkA_step p1.out a2.out⟩
theorem a0 : Ca [] := ⟨checkA_step p0.out a1.out⟩
theorem checked : Ck (⟨12, vars 12, [], []⟩) := ⟨checkA_check a0.out⟩

set_option maxHeartbeats 1600000 in
theorem walk (x0_0 x0_1 x0_2 x0_3 x0_4 x0_5 x0_6 x0_7 x0_8 x0_9 x0_10 : Nat) (x1 : Nat) (w1 : (Lit.float .f32 x1).wf = true) (w : World) :
    Calls Try.prog 12 #[.agg #[.float .f32 x0_0, .float .f32 x0_1, .float .f32 x0_2, .float .f32 x0_3, .float .f32 x0_4, .float .f32 x0_5, .float .f32 x0_6, .float .f32 x0_7, .float .f32 x0_8, .float .f32 x0_9, .float .f32 x0_10], .float .f32 x1] w (Gives (isB true) w) := by
  have h : Holds (envOf [.f (kcv .f32 x0_0), .f (kcv .f32 x0_1), .f (kcv .f32 x0_2), .f (kcv .f32 x0_3), .f (kcv .f32 x0_4), .f (kcv .f32 x0_5), .f (kcv .f32 x0_6), .f (kcv .f32 x0_7), .f (kcv .f32 x0_8), .f (kcv .f32 x0_9), .f (kcv .f32 x0_10), .f (kcv .f32 x1)]) Try.prog 12 [.p (.agg [.f32 0, .f32 1, .f32 2, .f32 3, .f32 4, .f32 5, .f32 6, .f32 7, .f32 8, .f32 9, .f32 10]), .p (.one (.f32 11))] ⟨12, vars 12, [], []⟩ := (check_holds follows (sums_ok _) (sums_ext _) checked.out)
  exact h (vars_wf 12) (fun x hx => (by cases hx)) [.agg #[.float .f32 x0_0, .float .f32 x0_1, .float .f32 x0_2, .float .f32 x0_3, .float .f32 x0_4, .float .f32 x0_5, .float .f32 x0_6, .float .f32 x0_7, .float .f32 x0_8, .float .f32 x0_9, .float .f32 x0_10], .float .f32 x1] (.cons ⟨_, rfl, (.cons (var_f32 rfl rfl) (.cons (var_f32 rfl rfl) (.cons (var_f32 rfl rfl) (.cons (var_f32 rfl rfl) (.cons (var_f32 rfl rfl) (.cons (var_f32 rfl rfl) (.cons (var_f32 rfl rfl) (.cons (var_f32 rfl rfl) (.cons (var_f32 rfl rfl) (.cons (var_f32 rfl rfl) (.cons (var_f32 rfl rfl) .nil)))))))))))⟩ (.cons (var_f32 rfl rfl) .nil)) w


set_option maxRecDepth 100000 in
theorem lifted (os : Os) (started : os.Started) (H : Type) (enc : TypeId × Value → H) :
    ReturnsInHanded {} Try.checked os 12 .any (Rows.fnExactTurnCameraSpec.pre6 enc Try.prog Try.f12 Rows.fnExactTurnCameraRow.domain false) (Rows.fnExactTurnCameraSpec.post enc Try.prog Try.f12 false true false false) := by
  refine returnsInHanded_of_change (C := Try.checked) own started (by kernel_rfl) Try.func12
    (ChangeSpec.witness6 (enc := enc) (C := Try.checked) false ⟨#[], #[.agg #[.float .f32 0, .float .f32 0, .float .f32 0, .float .f32 0, .float .f32 0, .float .f32 0, .float .f32 0, .float .f32 0, .float .f32 0, .float .f32 0, .float .f32 0], .float .f32 0], []⟩ 8 (by kernel_rfl) (by kernel_rfl) (by kernel_rfl) (by kernel_rfl)) ?_
  intro W base args ds gs before hval0 hW hcnd _
  have hval : ∀ (j : Nat) t v, Try.f12.params[j]? = some t → args[j]? = some v → Value.okWide Try.prog W .any base t v := hval0
  have hW' := hW
  obtain ⟨p, q, hA0, hV, rfl, hfz, hnd⟩ := hW
  have hA : DataW.TrodAll enc Try.prog W 0 (fun _ => true) true Try.f12.params.toList args.toList ds p := hA0
  rw [Try.params12] at hA hval
  obtain ⟨v0, vs0, d0, ds0, p0, q0, hargs, rfl, rfl, h0, r0⟩ := trodAll_cons hA
  obtain ⟨v1, vs1, d1, ds1, p1, q1, rfl, rfl, rfl, h1, r1⟩ := trodAll_cons r0
  obtain ⟨rfl, rfl, rfl⟩ := trodAll_nil r1
  obtain rfl : args = #[v0, v1] := by cases args; simp_all
  obtain ⟨rfl, rfl⟩ := trodVars_none hV
  have k0 := h0
  have lt0 := lt_of_trod h0
  obtain ⟨x0_0, x0_1, x0_2, x0_3, x0_4, x0_5, x0_6, x0_7, x0_8, x0_9, x0_10, rfl⟩ := open_cam (hval 0 35 v0 rfl rfl) h0
  have k1 := h1
  have lt1 := lt_of_trod h1
  obtain ⟨x1, rfl, rfl, rfl, w1⟩ := open_float Try.underlying22 (hval 1 22 v1 rfl rfl) h1
  clear hA0 hval0
  refine (walk x0_0 x0_1 x0_2 x0_3 x0_4 x0_5 x0_6 x0_7 x0_8 x0_9 x0_10 x1 w1 W).mono fun e W' hq => ?_
  obtain ⟨v, rfl, rfl, bel⟩ := hq
  exact ⟨_, rfl, _, _, _, [], _, [], hW', trodAll_mk1 (shut_bool Try.underlying4 _), (trodAll_cons_mk (Below.trod laidOut (by kernel_rfl) (of_decide_eq_true (by kernel_rfl)) k0 bel lt0) (trodAll_cons_mk (Below.trod laidOut (by kernel_rfl) (of_decide_eq_true (by kernel_rfl)) k1 bel lt1) trodAll_mk0)), rfl, bel.frame _, fun h => by cases h⟩

theorem over : Rows.fnExactTurnCameraRow.holds Try.pinned (OpenSpec.ofChange Rows.fnExactTurnCameraSpec) :=
  OpenClaim.holds_of_wide 12 Try.f12 rfl rfl rfl rfl rfl rfl rfl ⟨rfl, rfl, rfl, rfl, rfl⟩ rfl rfl rfl rfl rfl (by kernel_rfl) Try.func12 (by kernel_rfl)
    (of_decide_eq_true (by kernel_rfl)) (by unfold Func.isWrapper; rw [if_neg (of_decide_eq_false (by kernel_rfl))]; exact ⟨rfl, rfl⟩)
    (fun os started H enc _ => lifted os started H enc)

theorem proved : Rows.FnExactTurnCameraSaid := over

end Go.Proofs.Ytkhnjcpigcghmaa.lawExactTurnCamera
