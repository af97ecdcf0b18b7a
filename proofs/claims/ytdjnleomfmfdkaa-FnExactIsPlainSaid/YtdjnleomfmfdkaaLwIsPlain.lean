--## law
/- The law FnExactIsPlain: for every input the function IsPlain answers as its model, and the law returns true. No condition. -/
import Derived.Test.YtdjnleomfmfdkaaOpen
import Derived.Test.YtdjnleomfmfdkaaPtB
namespace Go.Proofs.Ytdjnleomfmfdkaa.lawExactIsPlain
open Go.ChangeShapes Go.WideShapes Go.ChangeAt Go.RowKit Go.Flo
open Go.ChangeMaps (open_string shut_string)
set_option linter.unusedSimpArgs false
set_option linter.unusedVariables false

set_option maxHeartbeats 400000 in
theorem IsPlainS (x : Nat) (w : World) :
    Calls Try.prog 42 #[.float .f32 x] w (Same (isB (plainV (kcv .f32 x))) w) := by
  go_enter Try.func42, Try.ntmps42
  go_wp2_with (first | (go_at_call 95; refine (l01Plain_any _ _).mono ?_; rintro e w' ⟨_, rfl, rfl, rfl⟩))
  simp [bodyPost, results, Try.results42, go_sem]
  exact ⟨_, rfl, rfl, rfl⟩

set_option maxHeartbeats 1600000 in
theorem walk (x0 : Nat) (w0 : (Lit.float .f32 x0).wf = true) (w : World) :
    Calls Try.prog 7 #[.float .f32 x0] w (Gives (isB true) w) := by
  go_enter Try.func7, Try.ntmps7
  go_wp2_with (first | (go_at_call 42; refine (IsPlainS _ _).mono ?_; rintro e w' ⟨_, rfl, rfl, rfl⟩) | (go_at_call 43; refine (IsPlainI _ _).mono ?_; rintro e w' ⟨_, rfl, rfl, rfl⟩))
  first
    | simp [bodyPost, results, Try.results7, go_sem]
  exact ⟨_, rfl, rfl, by ((try simp only [Hid] at *); repeat' (first | (with_reducible exact Below.refl _ _) | (with_reducible assumption) | (with_reducible refine below_drewN ?_ _) | (with_reducible refine Below.drew ?_) | (with_reducible refine below_alloc ?_) | (with_reducible refine below_set ?_ ?_) | (refine below_step (by with_reducible assumption) ?_) | (simp; done) | (simp; omega) | omega))⟩

set_option maxRecDepth 100000 in
theorem lifted (os : Os) (started : os.Started) (H : Type) (enc : TypeId × Value → H) :
    ReturnsInHanded {} Try.checked os 7 .any (Rows.fnExactIsPlainSpec.pre6 enc Try.prog Try.f7 Rows.fnExactIsPlainRow.domain false) (Rows.fnExactIsPlainSpec.post enc Try.prog Try.f7 false true false false) := by
  refine returnsInHanded_of_change (C := Try.checked) own started (by kernel_rfl) Try.func7
    (ChangeSpec.witness6 (enc := enc) (C := Try.checked) false ⟨#[], #[.float .f32 0], []⟩ 8 (by kernel_rfl) (by kernel_rfl) (by kernel_rfl) (by kernel_rfl)) ?_
  intro W base args ds gs before hval0 hW hcnd _
  have hval : ∀ (j : Nat) t v, Try.f7.params[j]? = some t → args[j]? = some v → Value.okWide Try.prog W .any base t v := hval0
  have hW' := hW
  obtain ⟨p, q, hA0, hV, rfl, hfz, hnd⟩ := hW
  have hA : DataW.TrodAll enc Try.prog W 0 (fun _ => true) true Try.f7.params.toList args.toList ds p := hA0
  rw [Try.params7] at hA hval
  obtain ⟨v0, vs0, d0, ds0, p0, q0, hargs, rfl, rfl, h0, r0⟩ := trodAll_cons hA
  obtain ⟨rfl, rfl, rfl⟩ := trodAll_nil r0
  obtain rfl : args = #[v0] := by cases args; simp_all
  obtain ⟨rfl, rfl⟩ := trodVars_none hV
  have k0 := h0
  have lt0 := lt_of_trod h0
  obtain ⟨x0, rfl, rfl, rfl, w0⟩ := open_float Try.underlying24 (hval 0 24 v0 rfl rfl) h0
  clear hA0 hval0
  refine (walk x0 w0 W).mono fun e W' hq => ?_
  obtain ⟨v, rfl, rfl, bel⟩ := hq
  exact ⟨_, rfl, _, _, _, [], _, [], hW', trodAll_mk1 (shut_bool Try.underlying4 _), (trodAll_cons_mk (Below.trod laidOut (by kernel_rfl) (of_decide_eq_true (by kernel_rfl)) k0 bel lt0) trodAll_mk0), rfl, bel.frame _, fun h => by cases h⟩

theorem over : Rows.fnExactIsPlainRow.holds Try.pinned (OpenSpec.ofChange Rows.fnExactIsPlainSpec) :=
  OpenClaim.holds_of_wide 7 Try.f7 rfl rfl rfl rfl rfl rfl rfl ⟨rfl, rfl, rfl, rfl, rfl⟩ rfl rfl rfl rfl rfl (by kernel_rfl) Try.func7 (by kernel_rfl)
    (of_decide_eq_true (by kernel_rfl)) (by unfold Func.isWrapper; rw [if_neg (of_decide_eq_false (by kernel_rfl))]; exact ⟨rfl, rfl⟩)
    (fun os started H enc _ => lifted os started H enc)

theorem proved : Rows.FnExactIsPlainSaid := over

end Go.Proofs.Ytdjnleomfmfdkaa.lawExactIsPlain
