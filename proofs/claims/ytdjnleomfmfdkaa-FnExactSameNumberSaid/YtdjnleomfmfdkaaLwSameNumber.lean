--## law
/- The law FnExactSameNumber: for every input the function SameNumber answers as its model, and the law returns true. No condition. -/
import Derived.Test.YtdjnleomfmfdkaaOpen
import Derived.Test.YtdjnleomfmfdkaaPtC
namespace Go.Proofs.Ytdjnleomfmfdkaa.lawExactSameNumber
open Go.ChangeShapes Go.WideShapes Go.ChangeAt Go.RowKit Go.Flo
open Go.ChangeMaps (open_string shut_string)
set_option linter.unusedSimpArgs false
set_option linter.unusedVariables false

theorem intBeq (a b : Nat) : ((a : Int) == (b : Int)) = (a == b) := by
  rw [Bool.eq_iff_iff]; simp; omega
theorem same_order {x : Nat} : FloatKind.f32.format.order x x = if (kcv .f32 x).isNone then none else some .eq := by
  rcases cv_cases FloatKind.f32.format x with ⟨h1, g1⟩ | ⟨h1, g1⟩
  · rw [order_nan_left (good .f32) g1]; unfold kcv; rw [h1]; rfl
  · rw [order_refl (good .f32) g1]; unfold kcv; rw [h1]; rfl
theorem bitsV_none {x : V} (h : x.isNone = true) : bitsV x = 2143289344 := by cases x <;> simp_all [bitsV]
theorem bitsV_some {x : Nat} (h : (kcv .f32 x).isNone = false) : bitsV (kcv .f32 x) = x ∧ x ≠ 2143289344 := by
  refine ⟨bitsV_of h, ?_⟩
  rintro rfl
  rw [show kcv .f32 2143289344 = none by kernel_rfl] at h; cases h
set_option maxHeartbeats 400000 in
theorem l01Same_any (x y : Nat) (w : World) :
    Calls Try.prog 88 #[.float .f32 x, .float .f32 y] w (Same (isB (bitsV (kcv .f32 x) == bitsV (kcv .f32 y))) w) := by
  have hb := bits32
  have ox := same_order (x := x); have oy := same_order (x := y)
  cases hx : (kcv .f32 x).isNone <;> cases hy : (kcv .f32 y).isNone
  all_goals
    rw [hx] at ox; rw [hy] at oy
    go_enter Try.func88, Try.ntmps88
    go_wp2
  all_goals
    simp [bodyPost, results, Try.results88, go_sem]
    refine ⟨_, rfl, ?_, rfl⟩
    unfold isB
    first
      | (rw [(bitsV_some hx).1, (bitsV_some hy).1, intBeq]; done)
      | (rw [(bitsV_some hx).1, bitsV_none hy]; have h := (bitsV_some hx).2; simp [h]; done)
      | (rw [(bitsV_some hy).1, bitsV_none hx]; have h := (bitsV_some hy).2; simp [Ne.symm h]; done)
      | (rw [bitsV_none hx, bitsV_none hy]; rfl)
set_option maxHeartbeats 400000 in
theorem SameNumberS (x y : Nat) (w : World) :
    Calls Try.prog 33 #[.float .f32 x, .float .f32 y] w (Same (isB (bitsV (kcv .f32 x) == bitsV (kcv .f32 y))) w) := by
  go_enter Try.func33, Try.ntmps33
  go_wp2_with (first | (go_at_call 88; refine (l01Same_any _ _ _).mono ?_; rintro e w' ⟨_, rfl, rfl, rfl⟩))
  simp [bodyPost, results, Try.results33, go_sem]
  exact ⟨_, rfl, rfl, rfl⟩
set_option maxHeartbeats 400000 in
theorem SameNumberI (x y : Nat) (w : World) :
    Calls Try.prog 41 #[.float .f32 x, .float .f32 y] w (Drew' (isB (bitsV (kcv .f32 x) == bitsV (kcv .f32 y))) w) := by
  go_enter Try.func41, Try.ntmps41
  go_wp2_with (first | (go_at_call 94; refine (bitsOf_any _ _).mono ?_; rintro e w' ⟨_, n, rfl, rfl, rfl⟩))
  simp [bodyPost, results, Try.results41, go_sem]
  exact ⟨_, _, rfl, by unfold isB; rw [intBeq], rfl⟩

set_option maxHeartbeats 1600000 in
theorem walk (x0 : Nat) (x1 : Nat) (w0 : (Lit.float .f32 x0).wf = true) (w1 : (Lit.float .f32 x1).wf = true) (w : World) :
    Calls Try.prog 6 #[.float .f32 x0, .float .f32 x1] w (Gives (isB true) w) := by
  go_enter Try.func6, Try.ntmps6
  go_wp2_with (first | (go_at_call 33; refine (SameNumberS _ _ _).mono ?_; rintro e w' ⟨_, rfl, rfl, rfl⟩) | (go_at_call 41; refine (SameNumberI _ _ _).mono ?_; rintro e w' ⟨_, n, rfl, rfl, rfl⟩))
  first
    | simp [bodyPost, results, Try.results6, go_sem]
  exact ⟨_, rfl, rfl, by ((try simp only [Hid] at *); repeat' (first | (with_reducible exact Below.refl _ _) | (with_reducible assumption) | (with_reducible refine below_drewN ?_ _) | (with_reducible refine Below.drew ?_) | (with_reducible refine below_alloc ?_) | (with_reducible refine below_set ?_ ?_) | (refine below_step (by with_reducible assumption) ?_) | (simp; done) | (simp; omega) | omega))⟩

set_option maxRecDepth 100000 in
theorem lifted (os : Os) (started : os.Started) (H : Type) (enc : TypeId × Value → H) :
    ReturnsInHanded {} Try.checked os 6 .any (Rows.fnExactSameNumberSpec.pre6 enc Try.prog Try.f6 Rows.fnExactSameNumberRow.domain false) (Rows.fnExactSameNumberSpec.post enc Try.prog Try.f6 false true false false) := by
  refine returnsInHanded_of_change (C := Try.checked) own started (by kernel_rfl) Try.func6
    (ChangeSpec.witness6 (enc := enc) (C := Try.checked) false ⟨#[], #[.float .f32 0, .float .f32 0], []⟩ 8 (by kernel_rfl) (by kernel_rfl) (by kernel_rfl) (by kernel_rfl)) ?_
  intro W base args ds gs before hval0 hW hcnd _
  have hval : ∀ (j : Nat) t v, Try.f6.params[j]? = some t → args[j]? = some v → Value.okWide Try.prog W .any base t v := hval0
  have hW' := hW
  obtain ⟨p, q, hA0, hV, rfl, hfz, hnd⟩ := hW
  have hA : DataW.TrodAll enc Try.prog W 0 (fun _ => true) true Try.f6.params.toList args.toList ds p := hA0
  rw [Try.params6] at hA hval
  obtain ⟨v0, vs0, d0, ds0, p0, q0, hargs, rfl, rfl, h0, r0⟩ := trodAll_cons hA
  obtain ⟨v1, vs1, d1, ds1, p1, q1, rfl, rfl, rfl, h1, r1⟩ := trodAll_cons r0
  obtain ⟨rfl, rfl, rfl⟩ := trodAll_nil r1
  obtain rfl : args = #[v0, v1] := by cases args; simp_all
  obtain ⟨rfl, rfl⟩ := trodVars_none hV
  have k0 := h0
  have lt0 := lt_of_trod h0
  obtain ⟨x0, rfl, rfl, rfl, w0⟩ := open_float Try.underlying24 (hval 0 24 v0 rfl rfl) h0
  have k1 := h1
  have lt1 := lt_of_trod h1
  obtain ⟨x1, rfl, rfl, rfl, w1⟩ := open_float Try.underlying24 (hval 1 24 v1 rfl rfl) h1
  clear hA0 hval0
  refine (walk x0 x1 w0 w1 W).mono fun e W' hq => ?_
  obtain ⟨v, rfl, rfl, bel⟩ := hq
  exact ⟨_, rfl, _, _, _, [], _, [], hW', trodAll_mk1 (shut_bool Try.underlying4 _), (trodAll_cons_mk (Below.trod laidOut (by kernel_rfl) (of_decide_eq_true (by kernel_rfl)) k0 bel lt0) (trodAll_cons_mk (Below.trod laidOut (by kernel_rfl) (of_decide_eq_true (by kernel_rfl)) k1 bel lt1) trodAll_mk0)), rfl, bel.frame _, fun h => by cases h⟩

theorem over : Rows.fnExactSameNumberRow.holds Try.pinned (OpenSpec.ofChange Rows.fnExactSameNumberSpec) :=
  OpenClaim.holds_of_wide 6 Try.f6 rfl rfl rfl rfl rfl rfl rfl ⟨rfl, rfl, rfl, rfl, rfl⟩ rfl rfl rfl rfl rfl (by kernel_rfl) Try.func6 (by kernel_rfl)
    (of_decide_eq_true (by kernel_rfl)) (by unfold Func.isWrapper; rw [if_neg (of_decide_eq_false (by kernel_rfl))]; exact ⟨rfl, rfl⟩)
    (fun os started H enc _ => lifted os started H enc)

theorem proved : Rows.FnExactSameNumberSaid := over

end Go.Proofs.Ytdjnleomfmfdkaa.lawExactSameNumber
