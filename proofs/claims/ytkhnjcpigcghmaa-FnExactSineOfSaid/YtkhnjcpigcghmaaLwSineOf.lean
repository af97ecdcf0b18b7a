/- The law FnExactSineOf: for every input the function SineOf answers as its model, and the law returns true. No condition. -/
import Derived.Test.YtkhnjcpigcghmaaOpen
import Derived.Test.YtkhnjcpigcghmaaSxS
import Derived.Test.YtkhnjcpigcghmaaOpn
namespace Go.Proofs.Ytkhnjcpigcghmaa.lawExactSineOf
open Go.Sx Go.ChangeShapes Go.WideShapes Go.ChangeAt Go.RowKit Go.Flo
open Go.ChangeMaps (open_string shut_string)
set_option linter.unusedSimpArgs false
set_option linter.unusedVariables false
theorem checked : check Try.prog sums 60 30 3 [.p (.one (.f32 0))] topN 200 ⟨1, vars 1, []⟩ [] = true := by kernel_rfl

set_option maxHeartbeats 1600000 in
theorem walk (x0 : Nat) (w0 : (Lit.float .f32 x0).wf = true) (w : World) :
    Calls Try.prog 3 #[.float .f32 x0] w (Gives (isB true) w) := by
  have h := check_sound (env := envOf [.f (kcv .f32 x0)]) follows (sums_ok _) (sums_ext _) _ checked (vars_wf 1) (fun x hx => (by cases hx)) (vs := [.float .f32 x0]) (.cons (var_f32 rfl rfl) .nil) w
  exact h


set_option maxRecDepth 100000 in
theorem lifted (os : Os) (started : os.Started) (H : Type) (enc : TypeId × Value → H) :
    ReturnsInHanded {} Try.checked os 3 .any (Rows.fnExactSineOfSpec.pre6 enc Try.prog Try.f3 Rows.fnExactSineOfRow.domain false) (Rows.fnExactSineOfSpec.post enc Try.prog Try.f3 false true false false) := by
  refine returnsInHanded_of_change (C := Try.checked) own started (by kernel_rfl) Try.func3
    (ChangeSpec.witness6 (enc := enc) (C := Try.checked) false ⟨#[], #[.float .f32 0], []⟩ 8 (by kernel_rfl) (by kernel_rfl) (by kernel_rfl) (by kernel_rfl)) ?_
  intro W base args ds gs before hval0 hW hcnd _
  have hval : ∀ (j : Nat) t v, Try.f3.params[j]? = some t → args[j]? = some v → Value.okWide Try.prog W .any base t v := hval0
  have hW' := hW
  obtain ⟨p, q, hA0, hV, rfl, hfz, hnd⟩ := hW
  have hA : DataW.TrodAll enc Try.prog W 0 (fun _ => true) true Try.f3.params.toList args.toList ds p := hA0
  rw [Try.params3] at hA hval
  obtain ⟨v0, vs0, d0, ds0, p0, q0, hargs, rfl, rfl, h0, r0⟩ := trodAll_cons hA
  obtain ⟨rfl, rfl, rfl⟩ := trodAll_nil r0
  obtain rfl : args = #[v0] := by cases args; simp_all
  obtain ⟨rfl, rfl⟩ := trodVars_none hV
  have k0 := h0
  have lt0 := lt_of_trod h0
  obtain ⟨x0, rfl, rfl, rfl, w0⟩ := open_float Try.underlying22 (hval 0 22 v0 rfl rfl) h0
  clear hA0 hval0
  refine (walk x0 w0 W).mono fun e W' hq => ?_
  obtain ⟨v, rfl, rfl, bel⟩ := hq
  exact ⟨_, rfl, _, _, _, [], _, [], hW', trodAll_mk1 (shut_bool Try.underlying4 _), (trodAll_cons_mk (Below.trod laidOut (by kernel_rfl) (of_decide_eq_true (by kernel_rfl)) k0 bel lt0) trodAll_mk0), rfl, bel.frame _, fun h => by cases h⟩

theorem over : Rows.fnExactSineOfRow.holds Try.pinned (OpenSpec.ofChange Rows.fnExactSineOfSpec) :=
  OpenClaim.holds_of_wide 3 Try.f3 rfl rfl rfl rfl rfl rfl rfl ⟨rfl, rfl, rfl, rfl, rfl⟩ rfl rfl rfl rfl rfl (by kernel_rfl) Try.func3 (by kernel_rfl)
    (of_decide_eq_true (by kernel_rfl)) (by unfold Func.isWrapper; rw [if_neg (of_decide_eq_false (by kernel_rfl))]; exact ⟨rfl, rfl⟩)
    (fun os started H enc _ => lifted os started H enc)

theorem proved : Rows.FnExactSineOfSaid := over

end Go.Proofs.Ytkhnjcpigcghmaa.lawExactSineOf
