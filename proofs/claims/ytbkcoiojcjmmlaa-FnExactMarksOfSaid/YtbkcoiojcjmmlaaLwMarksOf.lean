--## law
/- The law FnExactMarksOf: for every input the function MarksOf answers as its model, and the law returns true. No condition. -/
import Derived.Test.YtbkcoiojcjmmlaaOpen
import Derived.Test.YtbkcoiojcjmmlaaMrkL
import Derived.Test.YtbkcoiojcjmmlaaMrkJ
namespace Go.Proofs.Ytbkcoiojcjmmlaa.lawExactMarksOf
open Go.Mem Go.ChangeShapes Go.WideShapes Go.ChangeAt Go.RowKit Go.Flo
open Go.ChangeMaps (open_string shut_string)
set_option linter.unusedSimpArgs false
set_option linter.unusedVariables false

set_option maxHeartbeats 4000000 in
theorem walk (x0_0 x0_1 x0_2 x0_3 x0_4 : Int) (w0_0 : I16 x0_0) (w0_1 : I16 x0_1) (w0_2 : I16 x0_2) (w0_3 : I16 x0_3) (w0_4 : I8 x0_4) (w : World) :
    Calls Try.prog 4 #[st x0_0 x0_1 x0_2 x0_3 x0_4] w (Gives (isB true) w) := by
  have hK : ∀ W, Bel (w.alloc (.cells #[.int .i16 x0_0, .int .i16 x0_1, .int .i16 x0_2, .int .i16 x0_3, .int .i8 x0_4] 26)) W → W.cell? ⟨w.heap.size, 0, none⟩ = some (.int .i16 x0_0) ∧ W.cell? ⟨w.heap.size, 1, none⟩ = some (.int .i16 x0_1) ∧ W.cell? ⟨w.heap.size, 2, none⟩ = some (.int .i16 x0_2) ∧ W.cell? ⟨w.heap.size, 3, none⟩ = some (.int .i16 x0_3) ∧ W.cell? ⟨w.heap.size, 4, none⟩ = some (.int .i8 x0_4) ∧ Bel (w.alloc (.cells #[.int .i16 x0_0, .int .i16 x0_1, .int .i16 x0_2, .int .i16 x0_3, .int .i8 x0_4] 26)) W := fun W hB => by
    have hcc : ∀ bk o, bk < w.heap.size + 1 → W.cell? ⟨bk, o, none⟩ = (w.alloc (.cells #[.int .i16 x0_0, .int .i16 x0_1, .int .i16 x0_2, .int .i16 x0_3, .int .i8 x0_4] 26)).cell? ⟨bk, o, none⟩ := fun bk o h => (bcell (W := (w.alloc (.cells #[.int .i16 x0_0, .int .i16 x0_1, .int .i16 x0_2, .int .i16 x0_3, .int .i8 x0_4] 26))) (w1 := W) hB.out).1 bk o (by simpa using h)
    refine ⟨?_, ?_, ?_, ?_, ?_, hB⟩
    all_goals
      rw [hcc _ _ (by omega)]
      simp [go_sem]
  have hL : ∀ W, Bel (w.alloc (.cells #[.int .i16 x0_0, .int .i16 x0_1, .int .i16 x0_2, .int .i16 x0_3, .int .i8 x0_4] 26)) W → Below w.heap.size w W := fun W hB => below_step hB.out (below_alloc (Below.refl _ _))
  cases hq : okS x0_0 x0_1 x0_2 x0_3 x0_4
  · have Hs : Aside (∀ w, Calls Try.prog 14 #[st x0_0 x0_1 x0_2 x0_3 x0_4] w fun e w' => ∃ g, e = .returned (.tuple #[.slice (some ⟨g, 0, none⟩) 0 0, .int .i64 1]) ∧ Below w.heap.size w w') := fun w => MarksOfS_bad x0_0 x0_1 x0_2 x0_3 x0_4 w0_0 w0_1 w0_2 w0_3 w0_4 hq w
    have Hi : Aside (∀ w, Calls Try.prog 15 #[st x0_0 x0_1 x0_2 x0_3 x0_4] w fun e w' => e = .returned (.tuple #[.slice none 0 0, .int .i64 1]) ∧ Below w.heap.size w w') := fun w => MarksOfI_bad x0_0 x0_1 x0_2 x0_3 x0_4 w0_0 w0_1 w0_2 w0_3 w0_4 hq w
    have t1 : True := trivial
    have t2 : True := trivial
    have t3 : True := trivial
    have t4 : True := trivial
    have t5 : True := trivial
    clear hq
    go_enter Try.func4, Try.ntmps4
    go_wp2_with (first | (clear t1; go_at_call 12; refine (toStrokeA _ _ _ _ _ _).mono ?_; rintro e w1 ⟨_, rfl, rfl, hb⟩; have HBl1 := Bel.step (Bel.refl _) hb; obtain ⟨ca1, cb1, cc1, cd1, ce1, _⟩ := hK _ HBl1) | (go_at_call 14; refine (Hs.out _).mono ?_; rintro e w2 ⟨g, rfl, hb⟩; have HBl2 := Bel.step HBl1 hb; obtain ⟨ca2, cb2, cc2, cd2, ce2, _⟩ := hK _ HBl2) | (clear t2; go_at_call 12; refine (toStrokeA _ _ _ _ _ _).mono ?_; rintro e w3 ⟨_, rfl, rfl, hb⟩; have HBl3 := Bel.step HBl2 hb; obtain ⟨ca3, cb3, cc3, cd3, ce3, _⟩ := hK _ HBl3) | (clear t3; go_at_call 15; refine (Hi.out _).mono ?_; rintro e w4 ⟨rfl, hb⟩; have HBl4 := Bel.step HBl3 hb; obtain ⟨ca4, cb4, cc4, cd4, ce4, _⟩ := hK _ HBl4) | (clear t4; go_at_call 16; refine (eqMarkSA _ _ [] _ (rls_nil _ _ _) (rls_nil _ _ _) (by simp)).mono ?_; rintro e w5 ⟨_, rfl, rfl, hb⟩; have HBl5 := Bel.step HBl4 hb; obtain ⟨ca5, cb5, cc5, cd5, ce5, _⟩ := hK _ HBl5) | (go_at_call 17; refine (markMarkS0 _).mono ?_; rintro e w6 ⟨_, rfl, rfl, hb⟩; have HBl6 := Bel.step HBl5 hb; obtain ⟨ca6, cb6, cc6, cd6, ce6, _⟩ := hK _ HBl6) | (clear t5; go_at_call 18; refine (heldMarkS0 _).mono ?_; rintro e w7 ⟨_, rfl, rfl, hb⟩; have HBl7 := Bel.step HBl6 hb; obtain ⟨ca7, cb7, cc7, cd7, ce7, _⟩ := hK _ HBl7) | (go_at_call 12; refine (toStrokeA _ _ _ _ _ _).mono ?_; rintro e w8 ⟨_, rfl, rfl, hb⟩; have HBl8 := Bel.step HBl7 hb; obtain ⟨ca8, cb8, cc8, cd8, ce8, _⟩ := hK _ HBl8) | (go_at_call 15; refine (Hi.out _).mono ?_; rintro e w9 ⟨rfl, hb⟩; have HBl9 := Bel.step HBl8 hb; obtain ⟨ca9, cb9, cc9, cd9, ce9, _⟩ := hK _ HBl9) | (go_at_call 16; refine (eqMarkSA _ _ [] _ (rls_nil _ _ _) (rls_nil _ _ _) (by simp)).mono ?_; rintro e w10 ⟨_, rfl, rfl, hb⟩; have HBl10 := Bel.step HBl9 hb; obtain ⟨ca10, cb10, cc10, cd10, ce10, _⟩ := hK _ HBl10) | (go_at_call 18; refine (heldMarkS0 _).mono ?_; rintro e w11 ⟨_, rfl, rfl, hb⟩; have HBl11 := Bel.step HBl10 hb; obtain ⟨ca11, cb11, cc11, cd11, ce11, _⟩ := hK _ HBl11))

    all_goals
      simp [bodyPost, results, Try.results4, go_sem]
      exact ⟨_, rfl, rfl, hL _ HBl11⟩
  · obtain ⟨ms, hms, hl2⟩ : ∃ ms, marksN x0_0 x0_1 x0_2 x0_3 (distF x0_0 x0_1 x0_2 x0_3) = ms ∧ ms.length ≤ 1001 := ⟨_, rfl, by
      have hm1 : okM x0_0 x0_1 = true ∧ okM x0_2 x0_3 = true := by simp [okS] at hq; exact ⟨hq.1.1, hq.1.2⟩
      have hdb := dist_bd (okM_bd hm1.1).1 (okM_bd hm1.1).2 (okM_bd hm1.2).1 (okM_bd hm1.2).2
      rw [marksN_len]; omega⟩
    have he : (distF x0_0 x0_1 x0_2 x0_3).toNat + 1 = ms.length := by rw [← hms, marksN_len]
    have hlen : ms.length ≤ 1048576 := by omega
    have hfl : (rM ms).flatten.length = 2 * ms.length := by rw [flatten_len rM_row, rM_len]; omega
    have Hs : Aside (∀ w, Calls Try.prog 14 #[st x0_0 x0_1 x0_2 x0_3 x0_4] w fun e w' => ∃ v, e = .returned (.tuple #[v, .int .i64 0]) ∧ Rls 2 w' v (rM ms) ∧ Below w.heap.size w w') := fun w => hms ▸ MarksOfS_ok x0_0 x0_1 x0_2 x0_3 x0_4 w0_0 w0_1 w0_2 w0_3 w0_4 hq w
    have Hi : Aside (∀ w, Calls Try.prog 15 #[st x0_0 x0_1 x0_2 x0_3 x0_4] w fun e w' => ∃ g, e = .returned (.tuple #[.slice (some ⟨g, 0, none⟩) ms.length ms.length, .int .i64 0]) ∧ Mem w w' [] [(g, (rM ms).flatten)]) := fun w => by
      have h := MarksOfI_ok x0_0 x0_1 x0_2 x0_3 x0_4 w0_0 w0_1 w0_2 w0_3 w0_4 hq w
      rw [hms, he] at h
      exact h
    have t1 : True := trivial
    have t2 : True := trivial
    have t3 : True := trivial
    have t4 : True := trivial
    have t5 : True := trivial
    clear hq he hms
    go_enter Try.func4, Try.ntmps4
    go_wp2_with (first | (clear t1; go_at_call 12; refine (toStrokeA _ _ _ _ _ _).mono ?_; rintro e w1 ⟨_, rfl, rfl, hb⟩; have HBl1 := Bel.step (Bel.refl _) hb; obtain ⟨ca1, cb1, cc1, cd1, ce1, _⟩ := hK _ HBl1) | (go_at_call 14; refine (Hs.out _).mono ?_; rintro e w2 ⟨v, rfl, hR, hb⟩; have HBl2 := Bel.step HBl1 hb; obtain ⟨ca2, cb2, cc2, cd2, ce2, _⟩ := hK _ HBl2; have HR : Aside (Rls 2 w2 v (rM ms)) := hR; clear hR) | (clear t2; go_at_call 12; refine (toStrokeA _ _ _ _ _ _).mono ?_; rintro e w3 ⟨_, rfl, rfl, hb⟩; have HBl3 := Bel.step HBl2 hb; obtain ⟨ca3, cb3, cc3, cd3, ce3, _⟩ := hK _ HBl3) | (clear t3; go_at_call 15; refine (Hi.out _).mono ?_; rintro e w4 ⟨g, rfl, hM⟩; have HBl4 := Bel.trans HBl3 hM.below; obtain ⟨ca4, cb4, cc4, cd4, ce4, _⟩ := hK _ HBl4; have HM4 : Aside (Mem w3 w4 [] [(g, (rM ms).flatten)]) := hM; have HB3 : Aside (Below w2.heap.size w2 w3) := hb; clear hM) | (clear t4; go_at_call 16; refine (eqMarkSA _ _ ms _ (rM_len (ms := ms) ▸ rls_flat rM_row HM4.out (by simp)) (HR.out.below (below_step HM4.out.below HB3.out)) hlen).mono ?_; rintro e w5 ⟨_, rfl, rfl, hb⟩; have HBl5 := Bel.step HBl4 hb; obtain ⟨ca5, cb5, cc5, cd5, ce5, _⟩ := hK _ HBl5; have HB5 : Aside (Below w4.heap.size w4 w5) := hb) | (go_at_call 17; refine (markMarkSA g ms.length _ _ _ (Mem.call HM4.out HB5.out) hfl hl2).mono ?_; rintro e w6 ⟨rfl, hM⟩; have HBl6 := Bel.trans HBl3 hM.below; obtain ⟨ca6, cb6, cc6, cd6, ce6, _⟩ := hK _ HBl6; have HM6 : Aside (Mem w3 w6 [] [(g, ctr (2 * ms.length))]) := hM; clear hM) | (clear t5; go_at_call 18; refine (heldMarkSA g ms.length _ _ HM6.out hl2).mono ?_; rintro e w7 ⟨_, rfl, rfl, hb⟩; have HBl7 := Bel.step HBl6 hb; obtain ⟨ca7, cb7, cc7, cd7, ce7, _⟩ := hK _ HBl7; have HB7 : Aside (Below w6.heap.size w6 w7) := hb) | (go_at_call 12; refine (toStrokeA _ _ _ _ _ _).mono ?_; rintro e w8 ⟨_, rfl, rfl, hb⟩; have HBl8 := Bel.step HBl7 hb; obtain ⟨ca8, cb8, cc8, cd8, ce8, _⟩ := hK _ HBl8; have HM8 : Aside (Mem w3 w8 [] [(g, ctr (2 * ms.length))]) := Mem.call (Mem.call HM6.out HB7.out) hb) | (go_at_call 15; refine (Hi.out _).mono ?_; rintro e w9 ⟨g2, rfl, hM⟩; have HBl9 := Bel.trans HBl8 hM.below; obtain ⟨ca9, cb9, cc9, cd9, ce9, _⟩ := hK _ HBl9; have HM9 : Aside (Mem w8 w9 [] [(g2, (rM ms).flatten)]) := hM; clear hM) | (go_at_call 16; refine (eqMarkSA _ _ ms _ (rM_len (ms := ms) ▸ rls_flat rM_row HM9.out (by simp)) (HR.out.below (below_step HM9.out.below (below_step HM8.out.below HB3.out))) hlen).mono ?_; rintro e w10 ⟨_, rfl, rfl, hb⟩; have HBl10 := Bel.step HBl9 hb; obtain ⟨ca10, cb10, cc10, cd10, ce10, _⟩ := hK _ HBl10; have HB10 : Aside (Below w9.heap.size w9 w10) := hb) | (go_at_call 18; refine (heldMarkSA g ms.length _ _ (Mem.call (Mem.call HM8.out HM9.out.below) HB10.out) hl2).mono ?_; rintro e w11 ⟨_, rfl, rfl, hb⟩; have HBl11 := Bel.step HBl10 hb; obtain ⟨ca11, cb11, cc11, cd11, ce11, _⟩ := hK _ HBl11))

    all_goals
      simp [bodyPost, results, Try.results4, go_sem]
      exact ⟨_, rfl, rfl, hL _ HBl11⟩


set_option maxRecDepth 100000 in
theorem lifted (os : Os) (started : os.Started) (H : Type) (enc : TypeId × Value → H) :
    ReturnsInHanded {} Try.checked os 4 .any (Rows.fnExactMarksOfSpec.pre6 enc Try.prog Try.f4 Rows.fnExactMarksOfRow.domain false) (Rows.fnExactMarksOfSpec.post enc Try.prog Try.f4 false true false false) := by
  refine returnsInHanded_of_change (C := Try.checked) own started (by kernel_rfl) Try.func4
    (ChangeSpec.witness6 (enc := enc) (C := Try.checked) false ⟨#[], #[st 0 0 0 0 0], []⟩ 8 (by kernel_rfl) (by kernel_rfl) (by kernel_rfl) (by kernel_rfl)) ?_
  intro W base args ds gs before hval0 hW hcnd _
  have hval : ∀ (j : Nat) t v, Try.f4.params[j]? = some t → args[j]? = some v → Value.okWide Try.prog W .any base t v := hval0
  have hW' := hW
  obtain ⟨p, q, hA0, hV, rfl, hfz, hnd⟩ := hW
  have hA : DataW.TrodAll enc Try.prog W 0 (fun _ => true) true Try.f4.params.toList args.toList ds p := hA0
  rw [Try.params4] at hA hval
  obtain ⟨v0, vs0, d0, ds0, p0, q0, hargs, rfl, rfl, h0, r0⟩ := trodAll_cons hA
  obtain ⟨rfl, rfl, rfl⟩ := trodAll_nil r0
  obtain rfl : args = #[v0] := by cases args; simp_all
  obtain ⟨rfl, rfl⟩ := trodVars_none hV
  have k0 := h0
  have lt0 := lt_of_trod h0
  obtain ⟨x0_0, x0_1, x0_2, x0_3, x0_4, rfl, w0_0, w0_1, w0_2, w0_3, w0_4⟩ := open_stroke (hval 0 26 v0 rfl rfl) h0
  clear hA0 hval0
  refine (walk x0_0 x0_1 x0_2 x0_3 x0_4 w0_0 w0_1 w0_2 w0_3 w0_4 W).mono fun e W' hq => ?_
  obtain ⟨v, rfl, rfl, bel⟩ := hq
  exact ⟨_, rfl, _, _, _, [], _, [], hW', trodAll_mk1 (shut_bool Try.underlying4 _), (trodAll_cons_mk (Below.trod laidOut (by kernel_rfl) (of_decide_eq_true (by kernel_rfl)) k0 bel lt0) trodAll_mk0), rfl, bel.frame _, fun h => by cases h⟩

theorem over : Rows.fnExactMarksOfRow.holds Try.pinned (OpenSpec.ofChange Rows.fnExactMarksOfSpec) :=
  OpenClaim.holds_of_wide 4 Try.f4 rfl rfl rfl rfl rfl rfl rfl ⟨rfl, rfl, rfl, rfl, rfl⟩ rfl rfl rfl rfl rfl (by kernel_rfl) Try.func4 (by kernel_rfl)
    (of_decide_eq_true (by kernel_rfl)) (by unfold Func.isWrapper; rw [if_neg (of_decide_eq_false (by kernel_rfl))]; exact ⟨rfl, rfl⟩)
    (fun os started H enc _ => lifted os started H enc)

theorem proved : Rows.FnExactMarksOfSaid := over

end Go.Proofs.Ytbkcoiojcjmmlaa.lawExactMarksOf
