/- The law FnExactMeasureFrom: for every input the function MeasureFrom answers as its model, and the law returns true. No condition. -/
import Derived.Test.YtkpfgonkbnbagabOpen
import Derived.Test.YtkpfgonkbnbagabSxS
import Derived.Test.YtkpfgonkbnbagabOpn
namespace Go.Proofs.Ytkpfgonkbnbagab.lawExactMeasureFrom
open Go.Sx Go.ChangeShapes Go.WideShapes Go.ChangeAt Go.RowKit Go.Flo
open Go.ChangeMaps (open_string shut_string)
set_option linter.unusedSimpArgs false
set_option linter.unusedVariables false
structure Ck (t : Tb) : Prop where
  out : checkG Try.prog sums gds 60 30 5 [.p (.agg [.f32 0, .f32 1]), .p (.agg [.f32 2, .f32 3]), .p (.agg [.f32 4, .f32 5]), .p (.agg [.f32 6, .f32 7]), .p (.one (.f32 8))] topN t = true
set_option maxRecDepth 100000 in
set_option maxHeartbeats 100000000 in
theorem checked : Ck (⟨9, vars 9, [], []⟩) := ⟨by kernel_rfl⟩

set_option maxHeartbeats 1600000 in
theorem walk (x0_0 x0_1 : Nat) (x1_0 x1_1 : Nat) (x2_0 x2_1 : Nat) (x3_0 x3_1 : Nat) (x4 : Nat) (w4 : (Lit.float .f32 x4).wf = true) (w : World) :
    Calls Try.prog 5 #[.agg #[.float .f32 x0_0, .float .f32 x0_1], .agg #[.float .f32 x1_0, .float .f32 x1_1], .agg #[.float .f32 x2_0, .float .f32 x2_1], .agg #[.float .f32 x3_0, .float .f32 x3_1], .float .f32 x4] w (Gives (isB true) w) := by
  have h : Holds (envOf [.f (kcv .f32 x0_0), .f (kcv .f32 x0_1), .f (kcv .f32 x1_0), .f (kcv .f32 x1_1), .f (kcv .f32 x2_0), .f (kcv .f32 x2_1), .f (kcv .f32 x3_0), .f (kcv .f32 x3_1), .f (kcv .f32 x4)]) Try.prog 5 [.p (.agg [.f32 0, .f32 1]), .p (.agg [.f32 2, .f32 3]), .p (.agg [.f32 4, .f32 5]), .p (.agg [.f32 6, .f32 7]), .p (.one (.f32 8))] ⟨9, vars 9, [], []⟩ := (checkG_holds follows (sums_ok _) (sums_ext _) gds_ok checked.out)
  exact h (vars_wf 9) (fun x hx => (by cases hx)) [.agg #[.float .f32 x0_0, .float .f32 x0_1], .agg #[.float .f32 x1_0, .float .f32 x1_1], .agg #[.float .f32 x2_0, .float .f32 x2_1], .agg #[.float .f32 x3_0, .float .f32 x3_1], .float .f32 x4] (.cons ⟨_, rfl, (.cons (var_f32 rfl rfl) (.cons (var_f32 rfl rfl) .nil))⟩ (.cons ⟨_, rfl, (.cons (var_f32 rfl rfl) (.cons (var_f32 rfl rfl) .nil))⟩ (.cons ⟨_, rfl, (.cons (var_f32 rfl rfl) (.cons (var_f32 rfl rfl) .nil))⟩ (.cons ⟨_, rfl, (.cons (var_f32 rfl rfl) (.cons (var_f32 rfl rfl) .nil))⟩ (.cons (var_f32 rfl rfl) .nil))))) w


set_option maxRecDepth 100000 in
theorem lifted (os : Os) (started : os.Started) (H : Type) (enc : TypeId × Value → H) :
    ReturnsInHanded {} Try.checked os 5 .any (Rows.fnExactMeasureFromSpec.pre6 enc Try.prog Try.f5 Rows.fnExactMeasureFromRow.domain false) (Rows.fnExactMeasureFromSpec.post enc Try.prog Try.f5 false true false false) := by
  refine returnsInHanded_of_change (C := Try.checked) own started (by kernel_rfl) Try.func5
    (ChangeSpec.witness6 (enc := enc) (C := Try.checked) false ⟨#[], #[.agg #[.float .f32 0, .float .f32 0], .agg #[.float .f32 0, .float .f32 0], .agg #[.float .f32 0, .float .f32 0], .agg #[.float .f32 0, .float .f32 0], .float .f32 0], []⟩ 8 (by kernel_rfl) (by kernel_rfl) (by kernel_rfl) (by kernel_rfl)) ?_
  intro W base args ds gs before hval0 hW hcnd _
  have hval : ∀ (j : Nat) t v, Try.f5.params[j]? = some t → args[j]? = some v → Value.okWide Try.prog W .any base t v := hval0
  have hW' := hW
  obtain ⟨p, q, hA0, hV, rfl, hfz, hnd⟩ := hW
  have hA : DataW.TrodAll enc Try.prog W 0 (fun _ => true) true Try.f5.params.toList args.toList ds p := hA0
  rw [Try.params5] at hA hval
  obtain ⟨v0, vs0, d0, ds0, p0, q0, hargs, rfl, rfl, h0, r0⟩ := trodAll_cons hA
  obtain ⟨v1, vs1, d1, ds1, p1, q1, rfl, rfl, rfl, h1, r1⟩ := trodAll_cons r0
  obtain ⟨v2, vs2, d2, ds2, p2, q2, rfl, rfl, rfl, h2, r2⟩ := trodAll_cons r1
  obtain ⟨v3, vs3, d3, ds3, p3, q3, rfl, rfl, rfl, h3, r3⟩ := trodAll_cons r2
  obtain ⟨v4, vs4, d4, ds4, p4, q4, rfl, rfl, rfl, h4, r4⟩ := trodAll_cons r3
  obtain ⟨rfl, rfl, rfl⟩ := trodAll_nil r4
  obtain rfl : args = #[v0, v1, v2, v3, v4] := by cases args; simp_all
  obtain ⟨rfl, rfl⟩ := trodVars_none hV
  have k0 := h0
  have lt0 := lt_of_trod h0
  obtain ⟨x0_0, x0_1, rfl⟩ := open_spot Try.underlying24 Try.underlying22 (by kernel_rfl) (by kernel_rfl) (hval 0 24 v0 rfl rfl) h0
  have k1 := h1
  have lt1 := lt_of_trod h1
  obtain ⟨x1_0, x1_1, rfl⟩ := open_spot Try.underlying24 Try.underlying22 (by kernel_rfl) (by kernel_rfl) (hval 1 24 v1 rfl rfl) h1
  have k2 := h2
  have lt2 := lt_of_trod h2
  obtain ⟨x2_0, x2_1, rfl⟩ := open_spot Try.underlying24 Try.underlying22 (by kernel_rfl) (by kernel_rfl) (hval 2 24 v2 rfl rfl) h2
  have k3 := h3
  have lt3 := lt_of_trod h3
  obtain ⟨x3_0, x3_1, rfl⟩ := open_spot Try.underlying24 Try.underlying22 (by kernel_rfl) (by kernel_rfl) (hval 3 24 v3 rfl rfl) h3
  have k4 := h4
  have lt4 := lt_of_trod h4
  obtain ⟨x4, rfl, rfl, rfl, w4⟩ := open_float Try.underlying22 (hval 4 22 v4 rfl rfl) h4
  clear hA0 hval0
  refine (walk x0_0 x0_1 x1_0 x1_1 x2_0 x2_1 x3_0 x3_1 x4 w4 W).mono fun e W' hq => ?_
  obtain ⟨v, rfl, rfl, bel⟩ := hq
  exact ⟨_, rfl, _, _, _, [], _, [], hW', trodAll_mk1 (shut_bool Try.underlying4 _), (trodAll_cons_mk (Below.trod laidOut (by kernel_rfl) (of_decide_eq_true (by kernel_rfl)) k0 bel lt0) (trodAll_cons_mk (Below.trod laidOut (by kernel_rfl) (of_decide_eq_true (by kernel_rfl)) k1 bel lt1) (trodAll_cons_mk (Below.trod laidOut (by kernel_rfl) (of_decide_eq_true (by kernel_rfl)) k2 bel lt2) (trodAll_cons_mk (Below.trod laidOut (by kernel_rfl) (of_decide_eq_true (by kernel_rfl)) k3 bel lt3) (trodAll_cons_mk (Below.trod laidOut (by kernel_rfl) (of_decide_eq_true (by kernel_rfl)) k4 bel lt4) trodAll_mk0))))), rfl, bel.frame _, fun h => by cases h⟩

theorem over : Rows.fnExactMeasureFromRow.holds Try.pinned (OpenSpec.ofChange Rows.fnExactMeasureFromSpec) :=
  OpenClaim.holds_of_wide 5 Try.f5 rfl rfl rfl rfl rfl rfl rfl ⟨rfl, rfl, rfl, rfl, rfl⟩ rfl rfl rfl rfl rfl (by kernel_rfl) Try.func5 (by kernel_rfl)
    (of_decide_eq_true (by kernel_rfl)) (by unfold Func.isWrapper; rw [if_neg (of_decide_eq_false (by kernel_rfl))]; exact ⟨rfl, rfl⟩)
    (fun os started H enc _ => lifted os started H enc)

theorem proved : Rows.FnExactMeasureFromSaid := over

end Go.Proofs.Ytkpfgonkbnbagab.lawExactMeasureFrom
