/- The law FnExactSameMap: for every input the function SameMap answers as its model, and the law returns true. No condition. -/
import Derived.Test.YtkpfgonkbnbagaaOpen
import Derived.Test.YtkpfgonkbnbagaaSxS
import Derived.Test.YtkpfgonkbnbagaaOpn
namespace Go.Proofs.Ytkpfgonkbnbagaa.lawExactSameMap
open Go.Sx Go.ChangeShapes Go.WideShapes Go.ChangeAt Go.RowKit Go.Flo
open Go.ChangeMaps (open_string shut_string)
set_option linter.unusedSimpArgs false
set_option linter.unusedVariables false
structure Ck (t : Tb) : Prop where
  out : check Try.prog sums 60 30 9 [.p (.agg [.f32 0, .f32 1, .f32 2, .f32 3, .f32 4, .f32 5, .f32 6, .f32 7, .f32 8]), .p (.agg [.f32 9, .f32 10, .f32 11, .f32 12, .f32 13, .f32 14, .f32 15, .f32 16, .f32 17])] topN t = true
set_option maxRecDepth 100000 in
set_option maxHeartbeats 100000000 in
theorem checked : Ck (⟨18, vars 18, [], []⟩) := ⟨by kernel_rfl⟩

set_option maxHeartbeats 1600000 in
theorem walk (x0_0 x0_1 x0_2 x0_3 x0_4 x0_5 x0_6 x0_7 x0_8 : Nat) (x1_0 x1_1 x1_2 x1_3 x1_4 x1_5 x1_6 x1_7 x1_8 : Nat)  (w : World) :
    Calls Try.prog 9 #[.agg #[.float .f32 x0_0, .float .f32 x0_1, .float .f32 x0_2, .float .f32 x0_3, .float .f32 x0_4, .float .f32 x0_5, .float .f32 x0_6, .float .f32 x0_7, .float .f32 x0_8], .agg #[.float .f32 x1_0, .float .f32 x1_1, .float .f32 x1_2, .float .f32 x1_3, .float .f32 x1_4, .float .f32 x1_5, .float .f32 x1_6, .float .f32 x1_7, .float .f32 x1_8]] w (Gives (isB true) w) := by
  have h : Holds (envOf [.f (kcv .f32 x0_0), .f (kcv .f32 x0_1), .f (kcv .f32 x0_2), .f (kcv .f32 x0_3), .f (kcv .f32 x0_4), .f (kcv .f32 x0_5), .f (kcv .f32 x0_6), .f (kcv .f32 x0_7), .f (kcv .f32 x0_8), .f (kcv .f32 x1_0), .f (kcv .f32 x1_1), .f (kcv .f32 x1_2), .f (kcv .f32 x1_3), .f (kcv .f32 x1_4), .f (kcv .f32 x1_5), .f (kcv .f32 x1_6), .f (kcv .f32 x1_7), .f (kcv .f32 x1_8)]) Try.prog 9 [.p (.agg [.f32 0, .f32 1, .f32 2, .f32 3, .f32 4, .f32 5, .f32 6, .f32 7, .f32 8]), .p (.agg [.f32 9, .f32 10, .f32 11, .f32 12, .f32 13, .f32 14, .f32 15, .f32 16, .f32 17])] ⟨18, vars 18, [], []⟩ := (check_holds follows (sums_ok _) (sums_ext _) checked.out)
  exact h (vars_wf 18) (fun x hx => (by cases hx)) [.agg #[.float .f32 x0_0, .float .f32 x0_1, .float .f32 x0_2, .float .f32 x0_3, .float .f32 x0_4, .float .f32 x0_5, .float .f32 x0_6, .float .f32 x0_7, .float .f32 x0_8], .agg #[.float .f32 x1_0, .float .f32 x1_1, .float .f32 x1_2, .float .f32 x1_3, .float .f32 x1_4, .float .f32 x1_5, .float .f32 x1_6, .float .f32 x1_7, .float .f32 x1_8]] (.cons ⟨_, rfl, (.cons (var_f32 rfl rfl) (.cons (var_f32 rfl rfl) (.cons (var_f32 rfl rfl) (.cons (var_f32 rfl rfl) (.cons (var_f32 rfl rfl) (.cons (var_f32 rfl rfl) (.cons (var_f32 rfl rfl) (.cons (var_f32 rfl rfl) (.cons (var_f32 rfl rfl) .nil)))))))))⟩ (.cons ⟨_, rfl, (.cons (var_f32 rfl rfl) (.cons (var_f32 rfl rfl) (.cons (var_f32 rfl rfl) (.cons (var_f32 rfl rfl) (.cons (var_f32 rfl rfl) (.cons (var_f32 rfl rfl) (.cons (var_f32 rfl rfl) (.cons (var_f32 rfl rfl) (.cons (var_f32 rfl rfl) .nil)))))))))⟩ .nil)) w


set_option maxRecDepth 100000 in
theorem lifted (os : Os) (started : os.Started) (H : Type) (enc : TypeId × Value → H) :
    ReturnsInHanded {} Try.checked os 9 .any (Rows.fnExactSameMapSpec.pre6 enc Try.prog Try.f9 Rows.fnExactSameMapRow.domain false) (Rows.fnExactSameMapSpec.post enc Try.prog Try.f9 false true false false) := by
  refine returnsInHanded_of_change (C := Try.checked) own started (by kernel_rfl) Try.func9
    (ChangeSpec.witness6 (enc := enc) (C := Try.checked) false ⟨#[], #[.agg #[.float .f32 0, .float .f32 0, .float .f32 0, .float .f32 0, .float .f32 0, .float .f32 0, .float .f32 0, .float .f32 0, .float .f32 0], .agg #[.float .f32 0, .float .f32 0, .float .f32 0, .float .f32 0, .float .f32 0, .float .f32 0, .float .f32 0, .float .f32 0, .float .f32 0]], []⟩ 8 (by kernel_rfl) (by kernel_rfl) (by kernel_rfl) (by kernel_rfl)) ?_
  intro W base args ds gs before hval0 hW hcnd _
  have hval : ∀ (j : Nat) t v, Try.f9.params[j]? = some t → args[j]? = some v → Value.okWide Try.prog W .any base t v := hval0
  have hW' := hW
  obtain ⟨p, q, hA0, hV, rfl, hfz, hnd⟩ := hW
  have hA : DataW.TrodAll enc Try.prog W 0 (fun _ => true) true Try.f9.params.toList args.toList ds p := hA0
  rw [Try.params9] at hA hval
  obtain ⟨v0, vs0, d0, ds0, p0, q0, hargs, rfl, rfl, h0, r0⟩ := trodAll_cons hA
  obtain ⟨v1, vs1, d1, ds1, p1, q1, rfl, rfl, rfl, h1, r1⟩ := trodAll_cons r0
  obtain ⟨rfl, rfl, rfl⟩ := trodAll_nil r1
  obtain rfl : args = #[v0, v1] := by cases args; simp_all
  obtain ⟨rfl, rfl⟩ := trodVars_none hV
  have k0 := h0
  have lt0 := lt_of_trod h0
  obtain ⟨x0_0, x0_1, x0_2, x0_3, x0_4, x0_5, x0_6, x0_7, x0_8, rfl⟩ := open_map (hval 0 23 v0 rfl rfl) h0
  have k1 := h1
  have lt1 := lt_of_trod h1
  obtain ⟨x1_0, x1_1, x1_2, x1_3, x1_4, x1_5, x1_6, x1_7, x1_8, rfl⟩ := open_map (hval 1 23 v1 rfl rfl) h1
  clear hA0 hval0
  refine (walk x0_0 x0_1 x0_2 x0_3 x0_4 x0_5 x0_6 x0_7 x0_8 x1_0 x1_1 x1_2 x1_3 x1_4 x1_5 x1_6 x1_7 x1_8  W).mono fun e W' hq => ?_
  obtain ⟨v, rfl, rfl, bel⟩ := hq
  exact ⟨_, rfl, _, _, _, [], _, [], hW', trodAll_mk1 (shut_bool Try.underlying4 _), (trodAll_cons_mk (Below.trod laidOut (by kernel_rfl) (of_decide_eq_true (by kernel_rfl)) k0 bel lt0) (trodAll_cons_mk (Below.trod laidOut (by kernel_rfl) (of_decide_eq_true (by kernel_rfl)) k1 bel lt1) trodAll_mk0)), rfl, bel.frame _, fun h => by cases h⟩

theorem over : Rows.fnExactSameMapRow.holds Try.pinned (OpenSpec.ofChange Rows.fnExactSameMapSpec) :=
  OpenClaim.holds_of_wide 9 Try.f9 rfl rfl rfl rfl rfl rfl rfl ⟨rfl, rfl, rfl, rfl, rfl⟩ rfl rfl rfl rfl rfl (by kernel_rfl) Try.func9 (by kernel_rfl)
    (of_decide_eq_true (by kernel_rfl)) (by unfold Func.isWrapper; rw [if_neg (of_decide_eq_false (by kernel_rfl))]; exact ⟨rfl, rfl⟩)
    (fun os started H enc _ => lifted os started H enc)

theorem proved : Rows.FnExactSameMapSaid := over

end Go.Proofs.Ytkpfgonkbnbagaa.lawExactSameMap
