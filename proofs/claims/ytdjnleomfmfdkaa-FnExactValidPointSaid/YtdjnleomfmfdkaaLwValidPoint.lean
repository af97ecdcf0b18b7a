--## law
/- The law FnExactValidPoint: for every input the function ValidPoint answers as its model, and the law returns true. No condition. -/
import Derived.Test.YtdjnleomfmfdkaaOpen
import Derived.Test.YtdjnleomfmfdkaaPtB
import Derived.Test.YtdjnleomfmfdkaaLawA
namespace Go.Proofs.Ytdjnleomfmfdkaa.lawExactValidPoint
open Go.ChangeShapes Go.WideShapes Go.ChangeAt Go.RowKit Go.Flo
open Go.ChangeMaps (open_string shut_string)
set_option linter.unusedSimpArgs false
set_option linter.unusedVariables false

set_option maxHeartbeats 400000 in
theorem ValidPointS (x0 x1 x2 : Nat) (w : World) :
    Calls Try.prog 44 #[.agg #[.float .f32 x0, .float .f32 x1, .float .f32 x2]] w (Gives (isB (plainP (cp x0 x1 x2))) w) := by
  go_enter Try.func44, Try.ntmps44
  go_wp2_with (first | (go_at_call 63; refine (l01Point_any _ _ _ _).mono ?_; rintro e w' ⟨_, rfl, rfl, hb⟩; obtain ⟨hc1, hf1⟩ := bcell hb; (try simp only [World.drew_is_drewN, World.heap_drewN, World.cell?_drewN, World.frozen?_drewN] at hc1 hf1); have hs := hb.size; (try simp at hs); have hz1a : w.heap.size < w'.heap.size := (by omega); have HB1 := Lib.hid hb; clear hb hs))
  simp [bodyPost, results, Try.results44, go_sem]
  refine ⟨_, rfl, rfl, by ((try simp only [Hid] at *); repeat' (first | (with_reducible exact Below.refl _ _) | (with_reducible assumption) | (with_reducible refine below_drewN ?_ _) | (with_reducible refine Below.drew ?_) | (with_reducible refine below_alloc ?_) | (with_reducible refine below_set ?_ ?_) | (refine below_step (by with_reducible assumption) ?_) | (simp; done) | (simp; omega) | omega))⟩

set_option maxHeartbeats 1600000 in
theorem walk (x0_0 x0_1 x0_2 : Nat) (w0_0 : (Lit.float .f32 x0_0).wf = true) (w0_1 : (Lit.float .f32 x0_1).wf = true) (w0_2 : (Lit.float .f32 x0_2).wf = true) (w : World) :
    Calls Try.prog 8 #[.agg #[.float .f32 x0_0, .float .f32 x0_1, .float .f32 x0_2]] w (Gives (isB true) w) := by
  go_enter Try.func8, Try.ntmps8
  go_wp2_with (first | (go_at_call 45; refine (toPoint_any _ _ _ _).mono ?_; rintro e w' ⟨rfl, hb⟩; obtain ⟨hc1, hf1⟩ := bcell hb; (try simp only [World.drew_is_drewN, World.heap_drewN, World.cell?_drewN, World.frozen?_drewN] at hc1 hf1); have hs := hb.size; (try simp at hs); have hz1a : w.heap.size < w'.heap.size := (by omega); have HB1 := Lib.hid hb; clear hb hs) | (go_at_call 44; refine (ValidPointS _ _ _ _).mono ?_; rintro e w' ⟨_, rfl, rfl, hb⟩; obtain ⟨hc2, hf2⟩ := bcell hb; (try simp only [World.drew_is_drewN, World.heap_drewN, World.cell?_drewN, World.frozen?_drewN] at hc2 hf2); have hs := hb.size; (try simp at hs); have hz2a : w.heap.size < w'.heap.size := (by omega); have HB2 := Lib.hid hb; clear hb hs) | (go_at_call 46; refine (ValidPointI _ _ _ _).mono ?_; rintro e w' ⟨_, rfl, rfl, hb⟩; obtain ⟨hc3, hf3⟩ := bcell hb; (try simp only [World.drew_is_drewN, World.heap_drewN, World.cell?_drewN, World.frozen?_drewN] at hc3 hf3); have hs := hb.size; (try simp at hs); have hz3a : w.heap.size < w'.heap.size := (by omega); have HB3 := Lib.hid hb; clear hb hs))
  first
    | simp [bodyPost, results, Try.results8, go_sem]
  exact ⟨_, rfl, rfl, by ((try simp only [Hid] at *); repeat' (first | (with_reducible exact Below.refl _ _) | (with_reducible assumption) | (with_reducible refine below_drewN ?_ _) | (with_reducible refine Below.drew ?_) | (with_reducible refine below_alloc ?_) | (with_reducible refine below_set ?_ ?_) | (refine below_step (by with_reducible assumption) ?_) | (simp; done) | (simp; omega) | omega))⟩

set_option maxRecDepth 100000 in
theorem lifted (os : Os) (started : os.Started) (H : Type) (enc : TypeId × Value → H) :
    ReturnsInHanded {} Try.checked os 8 .any (Rows.fnExactValidPointSpec.pre6 enc Try.prog Try.f8 Rows.fnExactValidPointRow.domain false) (Rows.fnExactValidPointSpec.post enc Try.prog Try.f8 false true false false) := by
  refine returnsInHanded_of_change (C := Try.checked) own started (by kernel_rfl) Try.func8
    (ChangeSpec.witness6 (enc := enc) (C := Try.checked) false ⟨#[], #[.agg #[.float .f32 0, .float .f32 0, .float .f32 0]], []⟩ 8 (by kernel_rfl) (by kernel_rfl) (by kernel_rfl) (by kernel_rfl)) ?_
  intro W base args ds gs before hval0 hW hcnd _
  have hval : ∀ (j : Nat) t v, Try.f8.params[j]? = some t → args[j]? = some v → Value.okWide Try.prog W .any base t v := hval0
  have hW' := hW
  obtain ⟨p, q, hA0, hV, rfl, hfz, hnd⟩ := hW
  have hA : DataW.TrodAll enc Try.prog W 0 (fun _ => true) true Try.f8.params.toList args.toList ds p := hA0
  rw [Try.params8] at hA hval
  obtain ⟨v0, vs0, d0, ds0, p0, q0, hargs, rfl, rfl, h0, r0⟩ := trodAll_cons hA
  obtain ⟨rfl, rfl, rfl⟩ := trodAll_nil r0
  obtain rfl : args = #[v0] := by cases args; simp_all
  obtain ⟨rfl, rfl⟩ := trodVars_none hV
  have k0 := h0
  have lt0 := lt_of_trod h0
  obtain ⟨x0_0, x0_1, x0_2, rfl, w0_0, w0_1, w0_2⟩ := open_pt Try.underlying25 Try.underlying24 (by kernel_rfl) (by kernel_rfl) (hval 0 25 v0 rfl rfl) h0
  clear hA0 hval0
  refine (walk x0_0 x0_1 x0_2 w0_0 w0_1 w0_2 W).mono fun e W' hq => ?_
  obtain ⟨v, rfl, rfl, bel⟩ := hq
  exact ⟨_, rfl, _, _, _, [], _, [], hW', trodAll_mk1 (shut_bool Try.underlying4 _), (trodAll_cons_mk (Below.trod laidOut (by kernel_rfl) (of_decide_eq_true (by kernel_rfl)) k0 bel lt0) trodAll_mk0), rfl, bel.frame _, fun h => by cases h⟩

theorem over : Rows.fnExactValidPointRow.holds Try.pinned (OpenSpec.ofChange Rows.fnExactValidPointSpec) :=
  OpenClaim.holds_of_wide 8 Try.f8 rfl rfl rfl rfl rfl rfl rfl ⟨rfl, rfl, rfl, rfl, rfl⟩ rfl rfl rfl rfl rfl (by kernel_rfl) Try.func8 (by kernel_rfl)
    (of_decide_eq_true (by kernel_rfl)) (by unfold Func.isWrapper; rw [if_neg (of_decide_eq_false (by kernel_rfl))]; exact ⟨rfl, rfl⟩)
    (fun os started H enc _ => lifted os started H enc)

theorem proved : Rows.FnExactValidPointSaid := over

end Go.Proofs.Ytdjnleomfmfdkaa.lawExactValidPoint
