--## law
/- The law FnExactDistanceOf: for every input the function DistanceOf answers as its model, and the law returns true. No condition. -/
import Derived.Test.YtbkcoiojcjmmlaaOpen
import Derived.Test.YtbkcoiojcjmmlaaMrkC
import Derived.Test.YtbkcoiojcjmmlaaMrkO
namespace Go.Proofs.Ytbkcoiojcjmmlaa.lawExactDistanceOf
open Go.ChangeShapes Go.WideShapes Go.ChangeAt Go.RowKit Go.Flo
open Go.ChangeMaps (open_string shut_string)
set_option linter.unusedSimpArgs false
set_option linter.unusedVariables false

set_option maxHeartbeats 4000000 in
theorem walk (x0_0 x0_1 : Int) (x1_0 x1_1 : Int) (w0_0 : I16 x0_0) (w0_1 : I16 x0_1) (w1_0 : I16 x1_0) (w1_1 : I16 x1_1) (w : World) :
    Calls Try.prog 9 #[mk x0_0 x0_1, mk x1_0 x1_1] w (Gives (isB true) w) := by
  have HS := DistanceOfS x0_0 x0_1 x1_0 x1_1 w0_0 w0_1 w1_0 w1_1
  have HI := DistanceOfI x0_0 x0_1 x1_0 x1_1 w0_0 w0_1 w1_0 w1_1
  have hK : ∀ W, Bel ((w.alloc (.cells #[.int .i16 x0_0, .int .i16 x0_1] 23)).alloc (.cells #[.int .i16 x1_0, .int .i16 x1_1] 23)) W → W.cell? ⟨w.heap.size, 0, none⟩ = some (.int .i16 x0_0) ∧ W.cell? ⟨w.heap.size, 1, none⟩ = some (.int .i16 x0_1) ∧ W.cell? ⟨w.heap.size + 1, 0, none⟩ = some (.int .i16 x1_0) ∧ W.cell? ⟨w.heap.size + 1, 1, none⟩ = some (.int .i16 x1_1) ∧ Bel ((w.alloc (.cells #[.int .i16 x0_0, .int .i16 x0_1] 23)).alloc (.cells #[.int .i16 x1_0, .int .i16 x1_1] 23)) W := fun W hB => by
    have hcc : ∀ b o, b < w.heap.size + 1 + 1 → W.cell? ⟨b, o, none⟩ = ((w.alloc (.cells #[.int .i16 x0_0, .int .i16 x0_1] 23)).alloc (.cells #[.int .i16 x1_0, .int .i16 x1_1] 23)).cell? ⟨b, o, none⟩ := fun b o h => (bcell (W := ((w.alloc (.cells #[.int .i16 x0_0, .int .i16 x0_1] 23)).alloc (.cells #[.int .i16 x1_0, .int .i16 x1_1] 23))) (w1 := W) hB).1 b o (by simpa using h)
    refine ⟨?_, ?_, ?_, ?_, hB⟩
    all_goals
      rw [hcc _ _ (by omega)]
      simp [go_sem]
  have hL : ∀ W, Bel ((w.alloc (.cells #[.int .i16 x0_0, .int .i16 x0_1] 23)).alloc (.cells #[.int .i16 x1_0, .int .i16 x1_1] 23)) W → Below w.heap.size w W := fun W hB => below_step hB (below_alloc (below_alloc (Below.refl _ _)))
  go_enter Try.func9, Try.ntmps9
  go_wp2_with fail
  all_goals go_region_held3 (fun W => W.cell? ⟨w.heap.size, 0, none⟩ = some (.int .i16 x0_0) ∧ W.cell? ⟨w.heap.size, 1, none⟩ = some (.int .i16 x0_1) ∧ W.cell? ⟨w.heap.size + 1, 0, none⟩ = some (.int .i16 x1_0) ∧ W.cell? ⟨w.heap.size + 1, 1, none⟩ = some (.int .i16 x1_1) ∧ Bel ((w.alloc (.cells #[.int .i16 x0_0, .int .i16 x0_1] 23)).alloc (.cells #[.int .i16 x1_0, .int .i16 x1_1] 23)) W) (first | exact hK _ (Bel.refl _) | exact hK _ (Bel.drew (Bel.refl _)) | assumption | exact hK _ (Bel.step (And.right (And.right (And.right (And.right (by assumption))))) hb) | exact hK _ (Bel.step (Bel.drew (And.right (And.right (And.right (And.right (by assumption)))))) hb) | exact hK _ (Bel.drew (Bel.step (And.right (And.right (And.right (And.right (by assumption))))) hb)) | exact hK _ (And.right (And.right (And.right (And.right (by assumption))))) | exact hK _ (Bel.drew (And.right (And.right (And.right (And.right (by assumption)))))) | go_keep) (first | (go_at_call 22; refine (toMarkA _ _ _).mono ?_; rintro e w' ⟨_, rfl, rfl, hb⟩) | (go_at_call 30; refine (HS _).mono ?_; rintro e w' ⟨_, rfl, rfl, hb⟩) | (go_at_call 31; refine (HI _).mono ?_; rintro e w' ⟨_, rfl, rfl, hb⟩))
  all_goals go_wp2_with fail
  all_goals go_region_held3 (fun W => W.cell? ⟨w.heap.size, 0, none⟩ = some (.int .i16 x0_0) ∧ W.cell? ⟨w.heap.size, 1, none⟩ = some (.int .i16 x0_1) ∧ W.cell? ⟨w.heap.size + 1, 0, none⟩ = some (.int .i16 x1_0) ∧ W.cell? ⟨w.heap.size + 1, 1, none⟩ = some (.int .i16 x1_1) ∧ Bel ((w.alloc (.cells #[.int .i16 x0_0, .int .i16 x0_1] 23)).alloc (.cells #[.int .i16 x1_0, .int .i16 x1_1] 23)) W) (first | exact hK _ (Bel.refl _) | exact hK _ (Bel.drew (Bel.refl _)) | assumption | exact hK _ (Bel.step (And.right (And.right (And.right (And.right (by assumption))))) hb) | exact hK _ (Bel.step (Bel.drew (And.right (And.right (And.right (And.right (by assumption)))))) hb) | exact hK _ (Bel.drew (Bel.step (And.right (And.right (And.right (And.right (by assumption))))) hb)) | exact hK _ (And.right (And.right (And.right (And.right (by assumption))))) | exact hK _ (Bel.drew (And.right (And.right (And.right (And.right (by assumption)))))) | go_keep) (first | (go_at_call 22; refine (toMarkA _ _ _).mono ?_; rintro e w' ⟨_, rfl, rfl, hb⟩) | (go_at_call 30; refine (HS _).mono ?_; rintro e w' ⟨_, rfl, rfl, hb⟩) | (go_at_call 31; refine (HI _).mono ?_; rintro e w' ⟨_, rfl, rfl, hb⟩))
  all_goals go_wp2_with fail
  all_goals
    simp [bodyPost, results, Try.results9, go_sem]
    exact ⟨_, rfl, rfl, (by first | exact hL _ (And.right (And.right (And.right (And.right (by assumption))))) | exact hL _ (Bel.step (And.right (And.right (And.right (And.right (by assumption))))) hb) | exact hL _ (Bel.drew (And.right (And.right (And.right (And.right (by assumption)))))) | exact hL _ (Bel.refl _))⟩


set_option maxRecDepth 100000 in
theorem lifted (os : Os) (started : os.Started) (H : Type) (enc : TypeId × Value → H) :
    ReturnsInHanded {} Try.checked os 9 .any (Rows.fnExactDistanceOfSpec.pre6 enc Try.prog Try.f9 Rows.fnExactDistanceOfRow.domain false) (Rows.fnExactDistanceOfSpec.post enc Try.prog Try.f9 false true false false) := by
  refine returnsInHanded_of_change (C := Try.checked) own started (by kernel_rfl) Try.func9
    (ChangeSpec.witness6 (enc := enc) (C := Try.checked) false ⟨#[], #[mk 0 0, mk 0 0], []⟩ 8 (by kernel_rfl) (by kernel_rfl) (by kernel_rfl) (by kernel_rfl)) ?_
  intro W base args ds gs before hval0 hW hcnd _
  have hval : ∀ (j : Nat) t v, Try.f9.params[j]? = some t → args[j]? = some v → Value.okWide Try.prog W .any base t v := hval0
  have hW' := hW
  obtain ⟨p, q, hA0, hV, rfl, hfz, hnd⟩ := hW
  have hA : DataW.TrodAll enc Try.prog W 0 (fun _ => true) true Try.f9.params.toList args.toList ds p := hA0
  rw [Try.params9] at hA hval
  obtain ⟨v0, vs0, d0, ds0, p0, q0, hargs, rfl, rfl, h0, r0⟩ := trodAll_cons hA
  obtain ⟨v1, vs1, d1, ds1, p1, q1, rfl, rfl, rfl, h1, r1⟩ := trodAll_cons r0
  obtain ⟨rfl, rfl, rfl⟩ := trodAll_nil r1
  obtain rfl : args = #[v0, v1] := by cases args; simp_all
  obtain ⟨rfl, rfl⟩ := trodVars_none hV
  have k0 := h0
  have lt0 := lt_of_trod h0
  obtain ⟨x0_0, x0_1, rfl, w0_0, w0_1⟩ := open_mark Try.underlying23 Try.underlying22 (by kernel_rfl) (by kernel_rfl) (hval 0 23 v0 rfl rfl) h0
  have k1 := h1
  have lt1 := lt_of_trod h1
  obtain ⟨x1_0, x1_1, rfl, w1_0, w1_1⟩ := open_mark Try.underlying23 Try.underlying22 (by kernel_rfl) (by kernel_rfl) (hval 1 23 v1 rfl rfl) h1
  clear hA0 hval0
  refine (walk x0_0 x0_1 x1_0 x1_1 w0_0 w0_1 w1_0 w1_1 W).mono fun e W' hq => ?_
  obtain ⟨v, rfl, rfl, bel⟩ := hq
  exact ⟨_, rfl, _, _, _, [], _, [], hW', trodAll_mk1 (shut_bool Try.underlying4 _), (trodAll_cons_mk (Below.trod laidOut (by kernel_rfl) (of_decide_eq_true (by kernel_rfl)) k0 bel lt0) (trodAll_cons_mk (Below.trod laidOut (by kernel_rfl) (of_decide_eq_true (by kernel_rfl)) k1 bel lt1) trodAll_mk0)), rfl, bel.frame _, fun h => by cases h⟩

theorem over : Rows.fnExactDistanceOfRow.holds Try.pinned (OpenSpec.ofChange Rows.fnExactDistanceOfSpec) :=
  OpenClaim.holds_of_wide 9 Try.f9 rfl rfl rfl rfl rfl rfl rfl ⟨rfl, rfl, rfl, rfl, rfl⟩ rfl rfl rfl rfl rfl (by kernel_rfl) Try.func9 (by kernel_rfl)
    (of_decide_eq_true (by kernel_rfl)) (by unfold Func.isWrapper; rw [if_neg (of_decide_eq_false (by kernel_rfl))]; exact ⟨rfl, rfl⟩)
    (fun os started H enc _ => lifted os started H enc)

theorem proved : Rows.FnExactDistanceOfSaid := over

end Go.Proofs.Ytbkcoiojcjmmlaa.lawExactDistanceOf
