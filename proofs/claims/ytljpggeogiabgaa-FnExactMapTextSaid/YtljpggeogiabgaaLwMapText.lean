/- The law FnExactMapText: for every input the function MapText answers as its model, and the law returns true. No condition. -/
import Derived.Test.YtljpggeogiabgaaOpen
import Derived.Test.YtljpggeogiabgaaSxS
import Derived.Test.YtljpggeogiabgaaOpn
namespace Go.Proofs.Ytljpggeogiabgaa.lawExactMapText
open Go.Sx Go.ChangeShapes Go.WideShapes Go.ChangeAt Go.RowKit Go.Flo
open Go.ChangeMaps (open_string shut_string)
set_option linter.unusedSimpArgs false
set_option linter.unusedVariables false
structure Ck (t : Tb) : Prop where
  out : checkG Try.prog (sumsJ sums 14) [] 60 30 3 [.p (.agg [.f32 0, .f32 1, .f32 2, .f32 3, .f32 4, .f32 5, .f32 6, .f32 7, .f32 8])] topN t = true
set_option maxRecDepth 100000 in
set_option maxHeartbeats 100000000 in
theorem checked : Ck (⟨9, vars 9, [], []⟩) := ⟨by kernel_rfl⟩

set_option maxHeartbeats 1600000 in
theorem walk (x0_0 x0_1 x0_2 x0_3 x0_4 x0_5 x0_6 x0_7 x0_8 : Nat)  (w : World) :
    Calls Try.prog 3 #[.agg #[.float .f32 x0_0, .float .f32 x0_1, .float .f32 x0_2, .float .f32 x0_3, .float .f32 x0_4, .float .f32 x0_5, .float .f32 x0_6, .float .f32 x0_7, .float .f32 x0_8]] w (Gives (isB true) w) := by
  have h : Holds (envOf [.f (kcv .f32 x0_0), .f (kcv .f32 x0_1), .f (kcv .f32 x0_2), .f (kcv .f32 x0_3), .f (kcv .f32 x0_4), .f (kcv .f32 x0_5), .f (kcv .f32 x0_6), .f (kcv .f32 x0_7), .f (kcv .f32 x0_8)]) Try.prog 3 [.p (.agg [.f32 0, .f32 1, .f32 2, .f32 3, .f32 4, .f32 5, .f32 6, .f32 7, .f32 8])] ⟨9, vars 9, [], []⟩ := (checkG_holds follows (sumsJ_ok (sums_ok _) join_ok) (sumsJ_ext (sums_ext _)) (fun g hg => by cases hg) checked.out)
  exact h (vars_wf 9) (fun x hx => (by cases hx)) [.agg #[.float .f32 x0_0, .float .f32 x0_1, .float .f32 x0_2, .float .f32 x0_3, .float .f32 x0_4, .float .f32 x0_5, .float .f32 x0_6, .float .f32 x0_7, .float .f32 x0_8]] (.cons ⟨_, rfl, (.cons (var_f32 rfl rfl) (.cons (var_f32 rfl rfl) (.cons (var_f32 rfl rfl) (.cons (var_f32 rfl rfl) (.cons (var_f32 rfl rfl) (.cons (var_f32 rfl rfl) (.cons (var_f32 rfl rfl) (.cons (var_f32 rfl rfl) (.cons (var_f32 rfl rfl) .nil)))))))))⟩ .nil) w


set_option maxRecDepth 100000 in
theorem lifted (os : Os) (started : os.Started) (H : Type) (enc : TypeId × Value → H) :
    ReturnsInHanded {} Try.checked os 3 .any (Rows.fnExactMapTextSpec.pre6 enc Try.prog Try.f3 Rows.fnExactMapTextRow.domain false) (Rows.fnExactMapTextSpec.post enc Try.prog Try.f3 false true false false) := by
  refine returnsInHanded_of_change (C := Try.checked) own started (by kernel_rfl) Try.func3
    (ChangeSpec.witness6 (enc := enc) (C := Try.checked) false ⟨#[], #[.agg #[.float .f32 0, .float .f32 0, .float .f32 0, .float .f32 0, .float .f32 0, .float .f32 0, .float .f32 0, .float .f32 0, .float .f32 0]], []⟩ 8 (by kernel_rfl) (by kernel_rfl) (by kernel_rfl) (by kernel_rfl)) ?_
  intro W base args ds gs before hval0 hW hcnd _
  have hval : ∀ (j : Nat) t v, Try.f3.params[j]? = some t → args[j]? = some v → Value.okWide Try.prog W .any base t v := hval0
  have hW' := hW
  obtain ⟨p, q, hA0, hV, rfl, hfz, hnd⟩ := hW
  have hA : DataW.TrodAll enc Try.prog W 0 (fun _ => true) true Try.f3.params.toList args.toList ds p := hA0
  rw [Try.params3] at hA hval
  obtain ⟨v0, vs0, d0, ds0, p0, q0, hargs, rfl, rfl, h0, r0⟩ := trodAll_cons hA
  obtain ⟨rfl, rfl, rfl⟩ := trodAll_nil r0
  obtain rfl : args = #[v0] := by cases args; simp_all
  obtain ⟨rfl, rfl⟩ := trodVars_none hV
  have k0 := h0
  have lt0 := lt_of_trod h0
  obtain ⟨x0_0, x0_1, x0_2, x0_3, x0_4, x0_5, x0_6, x0_7, x0_8, rfl⟩ := open_map (hval 0 23 v0 rfl rfl) h0
  clear hA0 hval0
  refine (walk x0_0 x0_1 x0_2 x0_3 x0_4 x0_5 x0_6 x0_7 x0_8  W).mono fun e W' hq => ?_
  obtain ⟨v, rfl, rfl, bel⟩ := hq
  exact ⟨_, rfl, _, _, _, [], _, [], hW', trodAll_mk1 (shut_bool Try.underlying4 _), (trodAll_cons_mk (Below.trod laidOut (by kernel_rfl) (of_decide_eq_true (by kernel_rfl)) k0 bel lt0) trodAll_mk0), rfl, bel.frame _, fun h => by cases h⟩

theorem over : Rows.fnExactMapTextRow.holds Try.pinned (OpenSpec.ofChange Rows.fnExactMapTextSpec) :=
  OpenClaim.holds_of_wide 3 Try.f3 rfl rfl rfl rfl rfl rfl rfl ⟨rfl, rfl, rfl, rfl, rfl⟩ rfl rfl rfl rfl rfl (by kernel_rfl) Try.func3 (by kernel_rfl)
    (of_decide_eq_true (by kernel_rfl)) (by unfold Func.isWrapper; rw [if_neg (of_decide_eq_false (by kernel_rfl))]; exact ⟨rfl, rfl⟩)
    (fun os started H enc _ => lifted os started H enc)

theorem proved : Rows.FnExactMapTextSaid := over

end Go.Proofs.Ytljpggeogiabgaa.lawExactMapText
