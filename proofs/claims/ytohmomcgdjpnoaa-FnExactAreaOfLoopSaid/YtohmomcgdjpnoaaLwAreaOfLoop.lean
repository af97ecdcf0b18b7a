/- The law FnExactAreaOfLoop: for every input the function AreaOfLoop answers as its model, and the law returns true. No condition. -/
import Derived.Test.YtohmomcgdjpnoaaLstD
namespace Go.Proofs.Ytohmomcgdjpnoaa.lawExactAreaOfLoop
open Go.ChangeShapes Go.WideShapes Go.ChangeAt Go.RowKit Go.Flo
open Go.ChangeMaps (open_string shut_string)
set_option linter.unusedSimpArgs false
set_option linter.unusedVariables false
theorem isAr_same {ps : List (Nat × Nat)} {r s : Nat} {c d : Int} (h : (ps.all okAt && decide (ps.length ≤ 64)) = true ∧ kcv .f32 r = areaV ps ∧ c = 0 ∨ (ps.all okAt && decide (ps.length ≤ 64)) = false ∧ r = 0 ∧ c = 2) (g : (ps.all okAt && decide (ps.length ≤ 64)) = true ∧ kcv .f32 s = areaV ps ∧ d = 0 ∨ (ps.all okAt && decide (ps.length ≤ 64)) = false ∧ s = 0 ∧ d = 2) : kcv .f32 s = kcv .f32 r ∧ d = c := by
  rcases h with ⟨a, b, e⟩ | ⟨a, b, e⟩ <;> rcases g with ⟨a', b', e'⟩ | ⟨a', b', e'⟩
  · exact ⟨b'.trans b.symm, by omega⟩
  · rw [a] at a'; cases a'
  · rw [a] at a'; cases a'
  · exact ⟨by rw [b, b'], by omega⟩
set_option maxRecDepth 20000 in
set_option maxHeartbeats 4000000 in
theorem walk (v : Value) (ps : List (Nat × Nat)) (w : World) (hP : Pls w v ps) (hn : ps.length < 2 ^ 63) :
    Calls Try.prog 9 #[v] w (Gives (isB true) w) := by
  by_cases hs : ps.length ≤ 1048576
  · have hx1 : ¬ ((1048576 : Int) - (ps.length : Int) < 0) := by omega
    have t1 : True := trivial; have t2 : True := trivial; have t3 : True := trivial
    go_enter Try.func9, Try.ntmps9
    go_wp2_with (first
      | (go_at_call 32; refine (szF2S _ ps _ hP hn).mono ?_; rintro e w1 ⟨_, rfl, eb, hb1⟩; rw [if_pos hs] at eb; cases eb)
      | (clear t1; go_at_call 34; refine (toF2S' _ ps _ (hP.below hb1) hs).mono ?_; rintro e w2 ⟨u2, rfl, hU2, hb2⟩)
      | (go_at_call 33; refine (AreaOfLoopS _ ps _ hU2 hs).mono ?_; rintro e w3 ⟨_, rfl, ⟨r3, c3, rfl, h3⟩, hb3⟩; have HB3 := below_step hb3 (below_step hb2 hb1))
      | (clear t2; go_at_call 34; refine (toF2S' _ ps _ (hP.below HB3) hs).mono ?_; rintro e w4 ⟨u4, rfl, hU4, hb4⟩)
      | (go_at_call 35; refine (AreaOfLoopI _ ps _ hU4 hs).mono ?_; rintro e w5 ⟨_, rfl, ⟨r5, c5, rfl, h5⟩, hb5⟩; have HB5 := below_step hb5 (below_step hb4 HB3); obtain ⟨hrr, rfl⟩ := isAr_same h3 h5; have hU5 := hU4.below hb5; have HR : Aside (kcv .f32 r5 = kcv .f32 r3) := hrr; clear hrr h3 h5)
      | (clear t3; refine wpList_widen rfl _ _ _ rfl _ rfl (by kernel_rfl) (by kernel_rfl) ?_; intro q1 n1 hw1)
      | (refine wpList_widen rfl _ _ _ rfl _ rfl (by kernel_rfl) (by kernel_rfl) ?_; intro q2 n2 hw2)
      | (go_at_call 36; refine (sameFloat_any _ _ (by rw [hw1.out.1, hw2.out.1, HR.out]) _).mono ?_; rintro e w' ⟨rfl, m, rfl⟩)
      | (go_at_call 34; refine (toF2S' _ ps _ (hP.below (below_drewN HB5 _)) hs).mono ?_; rintro e w6 ⟨u6, rfl, hU6, hb6⟩)
      | (go_at_call 37; refine (eqF2S _ _ ps _ ((hU5.below (below_drewN (Below.refl _ _) _)).below hb6) hU6 hs).mono ?_; rintro e w7 ⟨_, rfl, eb, hb7⟩; cases eb))
    all_goals simp [bodyPost, results, Try.results9, go_sem]
    all_goals exact ⟨_, rfl, rfl, below_step hb7 (below_step hb6 (below_drewN HB5 _))⟩
  · have hx1 : ((1048576 : Int) - (ps.length : Int) < 0) := by omega
    go_enter Try.func9, Try.ntmps9
    go_wp2_with (first
      | (go_at_call 32; refine (szF2S _ ps _ hP hn).mono ?_; rintro e w1 ⟨_, rfl, eb, hb1⟩; rw [if_neg hs] at eb; cases eb))
    all_goals simp [bodyPost, results, Try.results9, go_sem]
    all_goals exact ⟨_, rfl, rfl, hb1⟩
set_option maxRecDepth 100000 in
theorem lifted (os : Os) (started : os.Started) (H : Type) (enc : TypeId × Value → H) :
    ReturnsInHanded {} Try.checked os 9 .any (Rows.fnExactAreaOfLoopSpec.pre6 enc Try.prog Try.f9 Rows.fnExactAreaOfLoopRow.domain false) (Rows.fnExactAreaOfLoopSpec.post enc Try.prog Try.f9 false true false false) := by
  refine returnsInHanded_of_change (C := Try.checked) own started (by kernel_rfl) Try.func9
    (ChangeSpec.witness6 (enc := enc) (C := Try.checked) false ⟨#[], #[.slice none 0 0], []⟩ 8 (by kernel_rfl) (by kernel_rfl) (by kernel_rfl) (by kernel_rfl)) ?_
  intro W base args ds gs before hval0 hW hcnd _
  have hval : ∀ (j : Nat) t v, Try.f9.params[j]? = some t → args[j]? = some v → Value.okWide Try.prog W .any base t v := hval0
  have hW' := hW
  obtain ⟨p, q, hA0, hV, rfl, hfz, hnd⟩ := hW
  have hA : DataW.TrodAll enc Try.prog W 0 (fun _ => true) true Try.f9.params.toList args.toList ds p := hA0
  rw [Try.params9] at hA hval
  obtain ⟨v0, vs0, d0, ds0, p0, q0, hargs, rfl, rfl, h0, r0⟩ := trodAll_cons hA
  obtain ⟨rfl, rfl, rfl⟩ := trodAll_nil r0
  obtain rfl : args = #[v0] := by cases args; simp_all
  obtain ⟨rfl, rfl⟩ := trodVars_none hV
  have k0 := h0
  have lt0 := lt_of_trod h0
  obtain ⟨ps, hP, hlen⟩ := open_pairs (e := 47) (f := 22) Try.underlying55 (by kernel_rfl) (by kernel_rfl) (by kernel_rfl) (by kernel_rfl) (hval 0 55 v0 rfl rfl) h0
  clear hA0 hval0
  refine (walk v0 ps W hP (Nat.lt_of_le_of_lt hlen (by decide))).mono fun e W' hq => ?_
  obtain ⟨v, rfl, rfl, bel⟩ := hq
  exact ⟨_, rfl, _, _, _, [], _, [], hW', trodAll_mk1 (shut_bool Try.underlying4 _), (trodAll_cons_mk (Below.trod laidOut (by kernel_rfl) (of_decide_eq_true (by kernel_rfl)) k0 bel lt0) trodAll_mk0), rfl, bel.frame _, fun h => by cases h⟩

theorem over : Rows.fnExactAreaOfLoopRow.holds Try.pinned (OpenSpec.ofChange Rows.fnExactAreaOfLoopSpec) :=
  OpenClaim.holds_of_wide 9 Try.f9 rfl rfl rfl rfl rfl rfl rfl ⟨rfl, rfl, rfl, rfl, rfl⟩ rfl rfl rfl rfl rfl (by kernel_rfl) Try.func9 (by kernel_rfl)
    (of_decide_eq_true (by kernel_rfl)) (by unfold Func.isWrapper; rw [if_neg (of_decide_eq_false (by kernel_rfl))]; exact ⟨rfl, rfl⟩)
    (fun os started H enc _ => lifted os started H enc)

theorem proved : Rows.FnExactAreaOfLoopSaid := over

end Go.Proofs.Ytohmomcgdjpnoaa.lawExactAreaOfLoop
