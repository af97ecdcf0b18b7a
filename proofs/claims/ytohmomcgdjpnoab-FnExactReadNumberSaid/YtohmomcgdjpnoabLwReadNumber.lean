--## law
/- The law FnExactReadNumber: for every input the function ReadNumber answers as its model, and the law returns true. No condition. -/
import Derived.Test.YtohmomcgdjpnoabOpen
import Derived.Test.YtohmomcgdjpnoabPtZ
import Derived.Test.YtohmomcgdjpnoabLawA
namespace Go.Proofs.Ytohmomcgdjpnoab.lawExactReadNumber
open Go.ChangeShapes Go.WideShapes Go.ChangeAt Go.RowKit Go.Flo
open Go.ChangeMaps (open_string shut_string)
set_option linter.unusedSimpArgs false
set_option linter.unusedVariables false

set_option maxHeartbeats 4000000 in
theorem walk (x0 : ByteArray) (w0 : x0.size ≤ maxLen) (w : World) :
    Calls Try.prog 5 #[.string x0] w (Gives (isB true) w) := by
  have HS := ReadNumberS x0
  have HI := ReadNumberI x0
  cases hr : resV x0 with
  | none =>
    simp only [hr] at HS HI
    clear hr
    have tok_2 : True := trivial
    go_enter Try.func5, Try.ntmps5
    go_wp2_with (first | (go_at_call 24; refine (HS _).mono ?_; rintro e w' ⟨v, rfl, hv, hb⟩; (obtain rfl : v = .tuple #[.float .f32 0, .int .i64 5] := hv); have HB1 := Lib.hid hb; clear hb) | (go_at_call 25; refine (HI _).mono ?_; rintro e w' ⟨v, rfl, hv, hb⟩; (obtain rfl : v = .tuple #[.float .f32 0, .int .i64 5] := hv); have HB2 := Lib.hid hb; clear hb) | (clear tok_2; refine wpList_widen rfl _ _ _ rfl _ rfl (by kernel_rfl) (by kernel_rfl) ?_; intro q1 n1 hw1) | (refine wpList_widen rfl _ _ _ rfl _ rfl (by kernel_rfl) (by kernel_rfl) ?_; intro q2 n2 hw2) | (go_at_call 26; refine (sameFloat_any _ _ (by rw [hw1.out.1, hw2.out.1]) _).mono ?_; rintro e w' ⟨rfl, m, rfl⟩))
    all_goals
      simp [bodyPost, results, Try.results5, go_sem]
      exact ⟨_, rfl, rfl, by ((try simp only [Hid] at *); repeat' (first | (with_reducible exact Below.refl _ _) | (with_reducible assumption) | (with_reducible refine below_drewN ?_ _) | (with_reducible refine Below.drew ?_) | (with_reducible refine below_alloc ?_) | (with_reducible refine below_set ?_ ?_) | (refine below_step (by with_reducible assumption) ?_) | (simp; done) | (simp; omega) | omega))⟩
  | some N =>
    simp only [hr] at HS HI
    clear hr
    have tok_2 : True := trivial
    go_enter Try.func5, Try.ntmps5
    go_wp2_with (first | (go_at_call 24; refine (HS _).mono ?_; rintro e w' ⟨v, rfl, hv, hb⟩; (obtain rfl : v = .tuple #[.float .f32 N, .int .i64 0] := hv); have HB1 := Lib.hid hb; clear hb) | (go_at_call 25; refine (HI _).mono ?_; rintro e w' ⟨v, rfl, hv, hb⟩; (obtain rfl : v = .tuple #[.float .f32 N, .int .i64 0] := hv); have HB2 := Lib.hid hb; clear hb) | (clear tok_2; refine wpList_widen rfl _ _ _ rfl _ rfl (by kernel_rfl) (by kernel_rfl) ?_; intro q1 n1 hw1) | (refine wpList_widen rfl _ _ _ rfl _ rfl (by kernel_rfl) (by kernel_rfl) ?_; intro q2 n2 hw2) | (go_at_call 26; refine (sameFloat_any _ _ (by rw [hw1.out.1, hw2.out.1]) _).mono ?_; rintro e w' ⟨rfl, m, rfl⟩))
    all_goals
      simp [bodyPost, results, Try.results5, go_sem]
      exact ⟨_, rfl, rfl, by ((try simp only [Hid] at *); repeat' (first | (with_reducible exact Below.refl _ _) | (with_reducible assumption) | (with_reducible refine below_drewN ?_ _) | (with_reducible refine Below.drew ?_) | (with_reducible refine below_alloc ?_) | (with_reducible refine below_set ?_ ?_) | (refine below_step (by with_reducible assumption) ?_) | (simp; done) | (simp; omega) | omega))⟩


set_option maxRecDepth 100000 in
theorem lifted (os : Os) (started : os.Started) (H : Type) (enc : TypeId × Value → H) :
    ReturnsInHanded {} Try.checked os 5 .any (Rows.fnExactReadNumberSpec.pre6 enc Try.prog Try.f5 Rows.fnExactReadNumberRow.domain false) (Rows.fnExactReadNumberSpec.post enc Try.prog Try.f5 false true false false) := by
  refine returnsInHanded_of_change (C := Try.checked) own started (by kernel_rfl) Try.func5
    (ChangeSpec.witness6 (enc := enc) (C := Try.checked) false ⟨#[], #[.string ByteArray.empty], []⟩ 8 (by kernel_rfl) (by kernel_rfl) (by kernel_rfl) (by kernel_rfl)) ?_
  intro W base args ds gs before hval0 hW hcnd _
  have hval : ∀ (j : Nat) t v, Try.f5.params[j]? = some t → args[j]? = some v → Value.okWide Try.prog W .any base t v := hval0
  have hW' := hW
  obtain ⟨p, q, hA0, hV, rfl, hfz, hnd⟩ := hW
  have hA : DataW.TrodAll enc Try.prog W 0 (fun _ => true) true Try.f5.params.toList args.toList ds p := hA0
  rw [Try.params5] at hA hval
  obtain ⟨v0, vs0, d0, ds0, p0, q0, hargs, rfl, rfl, h0, r0⟩ := trodAll_cons hA
  obtain ⟨rfl, rfl, rfl⟩ := trodAll_nil r0
  obtain rfl : args = #[v0] := by cases args; simp_all
  obtain ⟨rfl, rfl⟩ := trodVars_none hV
  have k0 := h0
  have lt0 := lt_of_trod h0
  obtain ⟨x0, rfl, rfl, rfl, w0⟩ := open_string Try.underlying9 (hval 0 9 v0 rfl rfl) h0
  clear hA0 hval0
  refine (walk x0 w0 W).mono fun e W' hq => ?_
  obtain ⟨v, rfl, rfl, bel⟩ := hq
  exact ⟨_, rfl, _, _, _, [], _, [], hW', trodAll_mk1 (shut_bool Try.underlying4 _), (trodAll_cons_mk (Below.trod laidOut (by kernel_rfl) (of_decide_eq_true (by kernel_rfl)) k0 bel lt0) trodAll_mk0), rfl, bel.frame _, fun h => by cases h⟩

theorem over : Rows.fnExactReadNumberRow.holds Try.pinned (OpenSpec.ofChange Rows.fnExactReadNumberSpec) :=
  OpenClaim.holds_of_wide 5 Try.f5 rfl rfl rfl rfl rfl rfl rfl ⟨rfl, rfl, rfl, rfl, rfl⟩ rfl rfl rfl rfl rfl (by kernel_rfl) Try.func5 (by kernel_rfl)
    (of_decide_eq_true (by kernel_rfl)) (by unfold Func.isWrapper; rw [if_neg (of_decide_eq_false (by kernel_rfl))]; exact ⟨rfl, rfl⟩)
    (fun os started H enc _ => lifted os started H enc)

theorem proved : Rows.FnExactReadNumberSaid := over

end Go.Proofs.Ytohmomcgdjpnoab.lawExactReadNumber
