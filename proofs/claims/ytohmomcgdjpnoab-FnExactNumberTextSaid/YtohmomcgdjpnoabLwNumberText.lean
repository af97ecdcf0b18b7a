/- The law FnExactNumberText: for every input the function NumberText answers as its model, and the law returns true. No condition. -/
import Derived.Test.YtohmomcgdjpnoabOpen
import Derived.Test.YtohmomcgdjpnoabSxS
import Derived.Test.YtohmomcgdjpnoabOpn
namespace Go.Proofs.Ytohmomcgdjpnoab.lawExactNumberText
open Go.Sx Go.ChangeShapes Go.WideShapes Go.ChangeAt Go.RowKit Go.Flo
open Go.ChangeMaps (open_string shut_string)
set_option linter.unusedSimpArgs false
set_option linter.unusedVariables false
structure Ck (t : Tb) : Prop where
  out : check Try.prog sums 60 30 4 [.p (.one (.f32 0))] topN t = true
set_option maxRecDepth 100000 in
set_option maxHeartbeats 100000000 in
theorem checked : Ck (⟨1, vars 1, [], []⟩) := ⟨by kernel_rfl⟩

set_option maxHeartbeats 1600000 in
theorem walk (x0 : Nat) (w0 : (Lit.float .f32 x0).wf = true) (w : World) :
    Calls Try.prog 4 #[.float .f32 x0] w (Gives (isB true) w) := by
  have h : Holds (envOf [.f (kcv .f32 x0)]) Try.prog 4 [.p (.one (.f32 0))] ⟨1, vars 1, [], []⟩ := (check_holds follows (sums_ok _) (sums_ext _) checked.out)
  exact h (vars_wf 1) (fun x hx => (by cases hx)) [.float .f32 x0] (.cons (var_f32 rfl rfl) .nil) w


set_option maxRecDepth 100000 in
theorem lifted (os : Os) (started : os.Started) (H : Type) (enc : TypeId × Value → H) :
    ReturnsInHanded {} Try.checked os 4 .any (Rows.fnExactNumberTextSpec.pre6 enc Try.prog Try.f4 Rows.fnExactNumberTextRow.domain false) (Rows.fnExactNumberTextSpec.post enc Try.prog Try.f4 false true false false) := by
  refine returnsInHanded_of_change (C := Try.checked) own started (by kernel_rfl) Try.func4
    (ChangeSpec.witness6 (enc := enc) (C := Try.checked) false ⟨#[], #[.float .f32 0], []⟩ 8 (by kernel_rfl) (by kernel_rfl) (by kernel_rfl) (by kernel_rfl)) ?_
  intro W base args ds gs before hval0 hW hcnd _
  have hval : ∀ (j : Nat) t v, Try.f4.params[j]? = some t → args[j]? = some v → Value.okWide Try.prog W .any base t v := hval0
  have hW' := hW
  obtain ⟨p, q, hA0, hV, rfl, hfz, hnd⟩ := hW
  have hA : DataW.TrodAll enc Try.prog W 0 (fun _ => true) true Try.f4.params.toList args.toList ds p := hA0
  rw [Try.params4] at hA hval
  obtain ⟨v0, vs0, d0, ds0, p0, q0, hargs, rfl, rfl, h0, r0⟩ := trodAll_cons hA
  obtain ⟨rfl, rfl, rfl⟩ := trodAll_nil r0
  obtain rfl : args = #[v0] := by cases args; simp_all
  obtain ⟨rfl, rfl⟩ := trodVars_none hV
  have k0 := h0
  have lt0 := lt_of_trod h0
  obtain ⟨x0, rfl, rfl, rfl, w0⟩ := open_float Try.underlying22 (hval 0 22 v0 rfl rfl) h0
  clear hA0 hval0
  refine (walk x0 w0 W).mono fun e W' hq => ?_
  obtain ⟨v, rfl, rfl, bel⟩ := hq
  exact ⟨_, rfl, _, _, _, [], _, [], hW', trodAll_mk1 (shut_bool Try.underlying4 _), (trodAll_cons_mk (Below.trod laidOut (by kernel_rfl) (of_decide_eq_true (by kernel_rfl)) k0 bel lt0) trodAll_mk0), rfl, bel.frame _, fun h => by cases h⟩

theorem over : Rows.fnExactNumberTextRow.holds Try.pinned (OpenSpec.ofChange Rows.fnExactNumberTextSpec) :=
  OpenClaim.holds_of_wide 4 Try.f4 rfl rfl rfl rfl rfl rfl rfl ⟨rfl, rfl, rfl, rfl, rfl⟩ rfl rfl rfl rfl rfl (by kernel_rfl) Try.func4 (by kernel_rfl)
    (of_decide_eq_true (by kernel_rfl)) (by unfold Func.isWrapper; rw [if_neg (of_decide_eq_false (by kernel_rfl))]; exact ⟨rfl, rfl⟩)
    (fun os started H enc _ => lifted os started H enc)

theorem proved : Rows.FnExactNumberTextSaid := over

end Go.Proofs.Ytohmomcgdjpnoab.lawExactNumberText
