/- The law FnExactStretchAt: for every input the function StretchAt answers as its model, and the law returns true. No condition. -/
import Derived.Test.YtkpfgonkbnbagabOpen
import Derived.Test.YtkpfgonkbnbagabSxS
import Derived.Test.YtkpfgonkbnbagabOpn
namespace Go.Proofs.Ytkpfgonkbnbagab.lawExactStretchAt
open Go.Sx Go.ChangeShapes Go.WideShapes Go.ChangeAt Go.RowKit Go.Flo
open Go.ChangeMaps (open_string shut_string)
set_option linter.unusedSimpArgs false
set_option linter.unusedVariables false
structure Ck (t : Tb) : Prop where
  out : checkG Try.prog sums gds 60 30 7 [.p (.agg [.f32 0, .f32 1, .f32 2, .f32 3, .f32 4, .f32 5, .f32 6, .f32 7, .f32 8]), .p (.agg [.f32 9, .f32 10])] topN t = true
set_option maxRecDepth 100000 in
set_option maxHeartbeats 100000000 in
theorem checked : Ck (⟨11, vars 11, [], []⟩) := ⟨by kernel_rfl⟩

set_option maxHeartbeats 1600000 in
theorem walk (x0_0 x0_1 x0_2 x0_3 x0_4 x0_5 x0_6 x0_7 x0_8 : Nat) (x1_0 x1_1 : Nat)  (w : World) :
    Calls Try.prog 7 #[.agg #[.float .f32 x0_0, .float .f32 x0_1, .float .f32 x0_2, .float .f32 x0_3, .float .f32 x0_4, .float .f32 x0_5, .float .f32 x0_6, .float .f32 x0_7, .float .f32 x0_8], .agg #[.float .f32 x1_0, .float .f32 x1_1]] w (Gives (isB true) w) := by
  have h : Holds (envOf [.f (kcv .f32 x0_0), .f (kcv .f32 x0_1), .f (kcv .f32 x0_2), .f (kcv .f32 x0_3), .f (kcv .f32 x0_4), .f (kcv .f32 x0_5), .f (kcv .f32 x0_6), .f (kcv .f32 x0_7), .f (kcv .f32 x0_8), .f (kcv .f32 x1_0), .f (kcv .f32 x1_1)]) Try.prog 7 [.p (.agg [.f32 0, .f32 1, .f32 2, .f32 3, .f32 4, .f32 5, .f32 6, .f32 7, .f32 8]), .p (.agg [.f32 9, .f32 10])] ⟨11, vars 11, [], []⟩ := (checkG_holds follows (sums_ok _) (sums_ext _) gds_ok checked.out)
  exact h (vars_wf 11) (fun x hx => (by cases hx)) [.agg #[.float .f32 x0_0, .float .f32 x0_1, .float .f32 x0_2, .float .f32 x0_3, .float .f32 x0_4, .float .f32 x0_5, .float .f32 x0_6, .float .f32 x0_7, .float .f32 x0_8], .agg #[.float .f32 x1_0, .float .f32 x1_1]] (.cons ⟨_, rfl, (.cons (var_f32 rfl rfl) (.cons (var_f32 rfl rfl) (.cons (var_f32 rfl rfl) (.cons (var_f32 rfl rfl) (.cons (var_f32 rfl rfl) (.cons (var_f32 rfl rfl) (.cons (var_f32 rfl rfl) (.cons (var_f32 rfl rfl) (.cons (var_f32 rfl rfl) .nil)))))))))⟩ (.cons ⟨_, rfl, (.cons (var_f32 rfl rfl) (.cons (var_f32 rfl rfl) .nil))⟩ .nil)) w


set_option maxRecDepth 100000 in
theorem lifted (os : Os) (started : os.Started) (H : Type) (enc : TypeId × Value → H) :
    ReturnsInHanded {} Try.checked os 7 .any (Rows.fnExactStretchAtSpec.pre6 enc Try.prog Try.f7 Rows.fnExactStretchAtRow.domain false) (Rows.fnExactStretchAtSpec.post enc Try.prog Try.f7 false true false false) := by
  refine returnsInHanded_of_change (C := Try.checked) own started (by kernel_rfl) Try.func7
    (ChangeSpec.witness6 (enc := enc) (C := Try.checked) false ⟨#[], #[.agg #[.float .f32 0, .float .f32 0, .float .f32 0, .float .f32 0, .float .f32 0, .float .f32 0, .float .f32 0, .float .f32 0, .float .f32 0], .agg #[.float .f32 0, .float .f32 0]], []⟩ 8 (by kernel_rfl) (by kernel_rfl) (by kernel_rfl) (by kernel_rfl)) ?_
  intro W base args ds gs before hval0 hW hcnd _
  have hval : ∀ (j : Nat) t v, Try.f7.params[j]? = some t → args[j]? = some v → Value.okWide Try.prog W .any base t v := hval0
  have hW' := hW
  obtain ⟨p, q, hA0, hV, rfl, hfz, hnd⟩ := hW
  have hA : DataW.TrodAll enc Try.prog W 0 (fun _ => true) true Try.f7.params.toList args.toList ds p := hA0
  rw [Try.params7] at hA hval
  obtain ⟨v0, vs0, d0, ds0, p0, q0, hargs, rfl, rfl, h0, r0⟩ := trodAll_cons hA
  obtain ⟨v1, vs1, d1, ds1, p1, q1, rfl, rfl, rfl, h1, r1⟩ := trodAll_cons r0
  obtain ⟨rfl, rfl, rfl⟩ := trodAll_nil r1
  obtain rfl : args = #[v0, v1] := by cases args; simp_all
  obtain ⟨rfl, rfl⟩ := trodVars_none hV
  have k0 := h0
  have lt0 := lt_of_trod h0
  obtain ⟨x0_0, x0_1, x0_2, x0_3, x0_4, x0_5, x0_6, x0_7, x0_8, rfl⟩ := open_map (hval 0 40 v0 rfl rfl) h0
  have k1 := h1
  have lt1 := lt_of_trod h1
  obtain ⟨x1_0, x1_1, rfl⟩ := open_spot Try.underlying24 Try.underlying22 (by kernel_rfl) (by kernel_rfl) (hval 1 24 v1 rfl rfl) h1
  clear hA0 hval0
  refine (walk x0_0 x0_1 x0_2 x0_3 x0_4 x0_5 x0_6 x0_7 x0_8 x1_0 x1_1  W).mono fun e W' hq => ?_
  obtain ⟨v, rfl, rfl, bel⟩ := hq
  exact ⟨_, rfl, _, _, _, [], _, [], hW', trodAll_mk1 (shut_bool Try.underlying4 _), (trodAll_cons_mk (Below.trod laidOut (by kernel_rfl) (of_decide_eq_true (by kernel_rfl)) k0 bel lt0) (trodAll_cons_mk (Below.trod laidOut (by kernel_rfl) (of_decide_eq_true (by kernel_rfl)) k1 bel lt1) trodAll_mk0)), rfl, bel.frame _, fun h => by cases h⟩

theorem over : Rows.fnExactStretchAtRow.holds Try.pinned (OpenSpec.ofChange Rows.fnExactStretchAtSpec) :=
  OpenClaim.holds_of_wide 7 Try.f7 rfl rfl rfl rfl rfl rfl rfl ⟨rfl, rfl, rfl, rfl, rfl⟩ rfl rfl rfl rfl rfl (by kernel_rfl) Try.func7 (by kernel_rfl)
    (of_decide_eq_true (by kernel_rfl)) (by unfold Func.isWrapper; rw [if_neg (of_decide_eq_false (by kernel_rfl))]; exact ⟨rfl, rfl⟩)
    (fun os started H enc _ => lifted os started H enc)

theorem proved : Rows.FnExactStretchAtSaid := over

end Go.Proofs.Ytkpfgonkbnbagab.lawExactStretchAt
