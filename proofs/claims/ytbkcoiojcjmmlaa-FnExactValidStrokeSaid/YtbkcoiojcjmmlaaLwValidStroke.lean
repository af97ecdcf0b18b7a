--## law
/- The law FnExactValidStroke: for every input the function ValidStroke answers as its model, and the law returns true. No condition. -/
import Derived.Test.YtbkcoiojcjmmlaaOpen
import Derived.Test.YtbkcoiojcjmmlaaMrkD
import Derived.Test.YtbkcoiojcjmmlaaMrkO
namespace Go.Proofs.Ytbkcoiojcjmmlaa.lawExactValidStroke
open Go.ChangeShapes Go.WideShapes Go.ChangeAt Go.RowKit Go.Flo
open Go.ChangeMaps (open_string shut_string)
set_option linter.unusedSimpArgs false
set_option linter.unusedVariables false

set_option maxHeartbeats 4000000 in
theorem walk (x0_0 x0_1 x0_2 x0_3 x0_4 : Int) (w0_0 : I16 x0_0) (w0_1 : I16 x0_1) (w0_2 : I16 x0_2) (w0_3 : I16 x0_3) (w0_4 : I8 x0_4) (w : World) :
    Calls Try.prog 3 #[st x0_0 x0_1 x0_2 x0_3 x0_4] w (Gives (isB true) w) := by
  have HS := ValidStrokeS x0_0 x0_1 x0_2 x0_3 x0_4 w0_0 w0_1 w0_2 w0_3 w0_4
  have HI := ValidStrokeI x0_0 x0_1 x0_2 x0_3 x0_4 w0_0 w0_1 w0_2 w0_3 w0_4
  go_enter Try.func3, Try.ntmps3
  go_wp2_with (first | (go_at_call 12; refine (toStrokeA _ _ _ _ _ _).mono ?_; rintro e w' ⟨_, rfl, rfl, hb⟩; obtain ⟨hc, hf⟩ := bcell hb; (try simp at hc hf); have hs := hb.size; (try simp at hs); (try (have hz0 : w.heap.size < w'.heap.size := (by omega))); (try (have hz1 : w.heap.size + 1 < w'.heap.size := (by omega))); (try (have hz2 : w.heap.size + 1 + 1 < w'.heap.size := (by omega))); (try (have hz3 : w.heap.size + 1 + 1 + 1 < w'.heap.size := (by omega))); have HB := Lib.hid hb; clear hb hs) | (go_at_call 11; refine (HS _).mono ?_; rintro e w' ⟨_, rfl, rfl, hb⟩; obtain ⟨hc, hf⟩ := bcell hb; (try simp at hc hf); have hs := hb.size; (try simp at hs); (try (have hz0 : w.heap.size < w'.heap.size := (by omega))); (try (have hz1 : w.heap.size + 1 < w'.heap.size := (by omega))); (try (have hz2 : w.heap.size + 1 + 1 < w'.heap.size := (by omega))); (try (have hz3 : w.heap.size + 1 + 1 + 1 < w'.heap.size := (by omega))); have HB := Lib.hid hb; clear hb hs) | (go_at_call 13; refine (HI _).mono ?_; rintro e w' ⟨_, rfl, rfl, hb⟩; obtain ⟨hc, hf⟩ := bcell hb; (try simp at hc hf); have hs := hb.size; (try simp at hs); (try (have hz0 : w.heap.size < w'.heap.size := (by omega))); (try (have hz1 : w.heap.size + 1 < w'.heap.size := (by omega))); (try (have hz2 : w.heap.size + 1 + 1 < w'.heap.size := (by omega))); (try (have hz3 : w.heap.size + 1 + 1 + 1 < w'.heap.size := (by omega))); have HB := Lib.hid hb; clear hb hs))
  all_goals
    simp [bodyPost, results, Try.results3, go_sem]
    exact ⟨_, rfl, rfl, (by ((try simp only [Hid] at *); repeat' (first | (with_reducible exact Below.refl _ _) | (with_reducible assumption) | (with_reducible refine below_drewN ?_ _) | (with_reducible refine Below.drew ?_) | (with_reducible refine below_alloc ?_) | (with_reducible refine below_set ?_ ?_) | (refine below_step (by with_reducible assumption) ?_) | (simp; done) | (simp; omega) | omega)))⟩


set_option maxRecDepth 100000 in
theorem lifted (os : Os) (started : os.Started) (H : Type) (enc : TypeId × Value → H) :
    ReturnsInHanded {} Try.checked os 3 .any (Rows.fnExactValidStrokeSpec.pre6 enc Try.prog Try.f3 Rows.fnExactValidStrokeRow.domain false) (Rows.fnExactValidStrokeSpec.post enc Try.prog Try.f3 false true false false) := by
  refine returnsInHanded_of_change (C := Try.checked) own started (by kernel_rfl) Try.func3
    (ChangeSpec.witness6 (enc := enc) (C := Try.checked) false ⟨#[], #[st 0 0 0 0 0], []⟩ 8 (by kernel_rfl) (by kernel_rfl) (by kernel_rfl) (by kernel_rfl)) ?_
  intro W base args ds gs before hval0 hW hcnd _
  have hval : ∀ (j : Nat) t v, Try.f3.params[j]? = some t → args[j]? = some v → Value.okWide Try.prog W .any base t v := hval0
  have hW' := hW
  obtain ⟨p, q, hA0, hV, rfl, hfz, hnd⟩ := hW
  have hA : DataW.TrodAll enc Try.prog W 0 (fun _ => true) true Try.f3.params.toList args.toList ds p := hA0
  rw [Try.params3] at hA hval
  obtain ⟨v0, vs0, d0, ds0, p0, q0, hargs, rfl, rfl, h0, r0⟩ := trodAll_cons hA
  obtain ⟨rfl, rfl, rfl⟩ := trodAll_nil r0
  obtain rfl : args = #[v0] := by cases args; simp_all
  obtain ⟨rfl, rfl⟩ := trodVars_none hV
  have k0 := h0
  have lt0 := lt_of_trod h0
  obtain ⟨x0_0, x0_1, x0_2, x0_3, x0_4, rfl, w0_0, w0_1, w0_2, w0_3, w0_4⟩ := open_stroke (hval 0 26 v0 rfl rfl) h0
  clear hA0 hval0
  refine (walk x0_0 x0_1 x0_2 x0_3 x0_4 w0_0 w0_1 w0_2 w0_3 w0_4 W).mono fun e W' hq => ?_
  obtain ⟨v, rfl, rfl, bel⟩ := hq
  exact ⟨_, rfl, _, _, _, [], _, [], hW', trodAll_mk1 (shut_bool Try.underlying4 _), (trodAll_cons_mk (Below.trod laidOut (by kernel_rfl) (of_decide_eq_true (by kernel_rfl)) k0 bel lt0) trodAll_mk0), rfl, bel.frame _, fun h => by cases h⟩

theorem over : Rows.fnExactValidStrokeRow.holds Try.pinned (OpenSpec.ofChange Rows.fnExactValidStrokeSpec) :=
  OpenClaim.holds_of_wide 3 Try.f3 rfl rfl rfl rfl rfl rfl rfl ⟨rfl, rfl, rfl, rfl, rfl⟩ rfl rfl rfl rfl rfl (by kernel_rfl) Try.func3 (by kernel_rfl)
    (of_decide_eq_true (by kernel_rfl)) (by unfold Func.isWrapper; rw [if_neg (of_decide_eq_false (by kernel_rfl))]; exact ⟨rfl, rfl⟩)
    (fun os started H enc _ => lifted os started H enc)

theorem proved : Rows.FnExactValidStrokeSaid := over

end Go.Proofs.Ytbkcoiojcjmmlaa.lawExactValidStroke
