/- The law FnExactReadPoint: for every input the function ReadPoint answers as its model, and the law returns true. Condition: two tables of the library, which are not read, hold what the program's text lays there (the card ties them). -/
import Derived.Test.YtnjckcampgankaaDoorOpen
import Derived.Test.YtnjckcampgankaaDoorTxtE
import Derived.Test.YtnjckcampgankaaDoorLawA
import Derived.Test.YtnjckcampgankaaDoorMathE
import Derived.Test.YtnjckcampgankaaDoorTie
import Derived.Test.YtnjckcampgankaaDoorCards
import Derived.Deep.DeepHandedRow
import Derived.Lay
import Derived.LaidMore
import Derived.SevenTiedAt
namespace Go.Proofs.YtnjckcampgankaaDoor.lawExactReadPoint
open Go.ChangeShapes Go.WideShapes Go.ChangeAt Go.RowKit Go.Flo
open Go.ChangeMaps (open_string shut_string)
set_option linter.unusedSimpArgs false
set_option linter.unusedVariables false
theorem fin_plain {x y z : Nat} (h : plainP (cp x y z) = true) : finP (cp x y z) = true := by
  have one : ∀ {v : V}, bd 147 v → finV v = true := fun {v} hv => by
    obtain ⟨b, rfl, hb⟩ := hv
    exact finV_num (Nat.lt_of_le_of_lt hb (of_decide_eq_true (by kernel_rfl)))
  obtain ⟨a, b, c⟩ := plainP_bd h
  have e : finP (cp x y z) = (finV (kcv .f32 x) && finV (kcv .f32 y) && finV (kcv .f32 z)) := rfl
  rw [e, one a, one b, one c]; rfl
theorem ptR_plain {ws : List ByteArray} {x y z : Nat} (h : ptR ws = some (x, y, z)) : plainP (cp x y z) = true := by
  unfold ptR at h
  split at h
  · split at h
    · rename_i hp; cases h; exact hp
    · cases h
  · cases h
theorem cell5 {w W : World} {v : Value} (h5 : 5 < w.heap.size) (hm : w.cell? ⟨5, 0, none⟩ = some v) (hB : Below w.heap.size w W) : W.cell? ⟨5, 0, none⟩ = some v := (hB.cell (p := ⟨5, 0, none⟩) h5).trans hm
theorem lt5 {w W : World} (h5 : 5 < w.heap.size) (hB : Below w.heap.size w W) : 5 < W.heap.size := Nat.lt_of_lt_of_le h5 hB.size
set_option maxRecDepth 20000 in
set_option maxHeartbeats 4000000 in
theorem walk (x0 : ByteArray) (w : World) {m : Int} (h5 : 5 < w.heap.size) (hm : w.cell? ⟨5, 0, none⟩ = some (.int .i64 m)) :
    Calls Tryd.prog 3 #[.string x0] w (Gives (isB true) w) := by
  by_cases hs : x0.size ≤ 1048576
  · have hs' : ¬ ((x0.size : Int) > 1048576) := by omega
    have H : Aside (x0.size ≤ 1048576 ∧ 5 < w.heap.size ∧ w.cell? ⟨5, 0, none⟩ = some (.int .i64 m)) := ⟨hs, h5, hm⟩
    clear hs h5 hm
    cases hr : ptR (segsB x0) with
    | none =>
      have R : Aside (ptR (segsB x0) = none) := hr
      clear hr
      go_enter Tryd.func3, Tryd.ntmps3
      go_wp2_with (first
        | (go_at_call 7; refine (ReadPointS x0 _ H.out.1).mono ?_; rintro e w1 ⟨v1, rfl, hv, hb⟩; rw [R.out] at hv; (simp only [isRP] at hv; subst hv); have HB1 : Aside _ := hb; clear hb)
        | (go_at_call 8; refine (ReadPointI x0 _ (lt5 H.out.2.1 (below_alloc HB1.out)) (cell5 H.out.2.1 H.out.2.2 (below_alloc HB1.out)) H.out.1).mono ?_; rintro e w2 ⟨v2, rfl, hv, hb⟩; rw [R.out] at hv; (simp only [isRP] at hv; subst hv); obtain ⟨hc2, hf2⟩ := bcell hb; have hz2 : w1.heap.size < w2.heap.size := (by have := hb.size; (try simp at this); omega); have hz3 : ¬ w1.heap.size = w2.heap.size := Nat.ne_of_lt hz2; (try simp at hc2 hf2); have HB2 : Aside _ := below_step hb (below_alloc HB1.out); clear hb)
        | (go_at_call 9; refine (eqPoint_num 0 0 0 0 0 0 rfl (by kernel_rfl) _).mono ?_; rintro e w3 ⟨v3, rfl, hv, hb⟩; (simp only [isB] at hv; subst hv); have HB3 : Aside _ := below_step hb (below_alloc HB2.out); clear hb))
      all_goals simp [bodyPost, results, Tryd.results3, go_sem]
      all_goals exact ⟨_, rfl, rfl, HB3.out⟩
    | some q =>
      obtain ⟨x, y, z⟩ := q
      have R : Aside (ptR (segsB x0) = some (x, y, z)) := hr
      have F : Aside (finP (cp x y z) = true) := fin_plain (ptR_plain hr)
      clear hr
      go_enter Tryd.func3, Tryd.ntmps3
      go_wp2_with (first
        | (go_at_call 7; refine (ReadPointS x0 _ H.out.1).mono ?_; rintro e w1 ⟨v1, rfl, hv, hb⟩; rw [R.out] at hv; (simp only [isRP] at hv; subst hv); have HB1 : Aside _ := hb; clear hb)
        | (go_at_call 8; refine (ReadPointI x0 _ (lt5 H.out.2.1 (below_alloc HB1.out)) (cell5 H.out.2.1 H.out.2.2 (below_alloc HB1.out)) H.out.1).mono ?_; rintro e w2 ⟨v2, rfl, hv, hb⟩; rw [R.out] at hv; (simp only [isRP] at hv; subst hv); obtain ⟨hc2, hf2⟩ := bcell hb; have hz2 : w1.heap.size < w2.heap.size := (by have := hb.size; (try simp at this); omega); have hz3 : ¬ w1.heap.size = w2.heap.size := Nat.ne_of_lt hz2; (try simp at hc2 hf2); have HB2 : Aside _ := below_step hb (below_alloc HB1.out); clear hb)
        | (go_at_call 9; refine (eqPoint_num x y z x y z rfl F.out _).mono ?_; rintro e w3 ⟨v3, rfl, hv, hb⟩; (simp only [isB] at hv; subst hv); have HB3 : Aside _ := below_step hb (below_alloc HB2.out); clear hb))
      all_goals simp [bodyPost, results, Tryd.results3, go_sem]
      all_goals exact ⟨_, rfl, rfl, HB3.out⟩
  · have hs' : ((x0.size : Int) > 1048576) := by omega
    go_enter Tryd.func3, Tryd.ntmps3
    go_wp2_with fail
    all_goals simp [bodyPost, results, Tryd.results3, go_sem]
    all_goals exact ⟨_, rfl, rfl, Below.refl _ _⟩
theorem ownKnob0 : ownKnob Tryd.prog.godebug = none := by kernel_rfl
set_option maxRecDepth 100000 in
theorem lifted (os : Os) (started : os.Started) (H : Type) (enc : TypeId × Value → H) :
    ReturnsInHanded {} Tryd.checked os 3 .any (fun w args => (Rows.fnExactReadPointSpec.pre enc Tryd.prog Tryd.f3 Rows.fnExactReadPointRow.domain false w args ∧ laidMetH Tryd.prog Rows.fnExactReadPointRow.laid w) ∧ sizedMet enc Tryd.prog Tryd.f3 (OpenSpec.ofChange Rows.fnExactReadPointSpec) false w args)
      (Rows.fnExactReadPointSpec.post enc Tryd.prog Tryd.f3 false true false false) := by
  refine returnsInHanded_of_row (C := Tryd.checked) (s := OpenSpec.ofChange Rows.fnExactReadPointSpec) (F := fun _ _ _ => 0) (conds := Rows.fnExactReadPointRow.domain) (laid := Rows.fnExactReadPointRow.laid) ownKnob0 started (by kernel_rfl) Tryd.func3
    (ChangeSpec.witness_shaped (enc := enc) (C := Tryd.checked) (os := os) (X := fun w _ => laidMetH Tryd.prog Rows.fnExactReadPointRow.laid w) false (World.laidAll Tryd.prog os Rows.fnExactReadPointRow.laid) #[.string ByteArray.empty] 8 (World.laidAll_os _ _ _)
      (World.shaped_of_ZipB (by kernel_rfl) (by kernel_rfl)) (by kernel_rfl) (by kernel_rfl) (by kernel_rfl)
      (by rw [MakeChecks.laidMetH_plain _ _ _ (by kernel_rfl)]; exact laidMet_laidAll _ (by kernel_rfl) (by kernel_rfl))) ?_
  intro W base args ds gs before hval0 hW _ _ _ hL hsh _
  have hval : ∀ (j : Nat) t v, Tryd.f3.params[j]? = some t → args[j]? = some v → Value.okWide Tryd.prog W .any base t v := hval0
  have hW' := hW
  obtain ⟨p, q, hA0, hV, rfl, hfz, hnd⟩ := hW
  have hA : DataW.TrodAll enc Tryd.prog W 0 (fun _ => true) true Tryd.f3.params.toList args.toList ds p := hA0
  rw [Tryd.params3] at hA hval
  obtain ⟨v0, vs0, d0, ds0, p0, q0, hargs, rfl, rfl, h0, r0⟩ := trodAll_cons hA
  obtain ⟨rfl, rfl, rfl⟩ := trodAll_nil r0
  obtain rfl : args = #[v0] := by cases args; simp_all
  obtain ⟨rfl, rfl⟩ := trodVars_none hV
  have k0 := h0
  have lt0 := lt_of_trod h0
  obtain ⟨x0, rfl, rfl, rfl, w0⟩ := open_string Tryd.underlying9 (hval 0 9 v0 rfl rfl) h0
  clear hA0 hval0
  obtain ⟨m, hm⟩ := Tryd.laysM147.s1_3 W hsh
  have h5 : 5 < W.heap.size := World.block_lt_of_cell? W _ hm
  refine (walk x0 W h5 hm).mono fun e W' hq => ?_
  obtain ⟨v, rfl, rfl, bel⟩ := hq
  exact ⟨_, rfl, _, _, _, [], _, [], hW', trodAll_mk1 (shut_bool Tryd.underlying4 _), (trodAll_cons_mk (Below.trod laidOut (by kernel_rfl) (of_decide_eq_true (by kernel_rfl)) k0 bel lt0) trodAll_mk0), rfl, bel.frame _, fun h => by cases h⟩
theorem over : Rows.fnExactReadPointRow.holds Tryd.pinned (OpenSpec.ofChange Rows.fnExactReadPointSpec) :=
  OpenClaim.holds_of_wide 3 Tryd.f3 rfl rfl rfl rfl rfl rfl rfl ⟨rfl, rfl, rfl, rfl, rfl⟩ rfl rfl rfl rfl rfl (by kernel_rfl) Tryd.func3 (by kernel_rfl)
    (of_decide_eq_true (by kernel_rfl)) (by unfold Func.isWrapper; rw [if_neg (of_decide_eq_false (by kernel_rfl))]; exact ⟨rfl, rfl⟩)
    (fun os started H enc _ => lifted os started H enc)
theorem proved : Rows.FnExactReadPointCardSaid :=
  Claim7.holds_tied_plain_at .later [] Rows.fnExactReadPointCard.laidKinds true Rows.fnExactReadPointCard.stood.harness Rows.fnExactReadPointCard.stood.looks
    over (fun _ h => by cases h) (by kernel_rfl) (fun _ h => by cases h) fnExactReadPoint_row_tie rfl ⟨rfl, rfl⟩ (by kernel_rfl) rfl
    (fun f fn hf hfn => by
      obtain rfl : f = 3 := Option.some.inj ((show Tryd.prog.funcNamed Rows.fnExactReadPointRow.func = some 3 by kernel_rfl).symm.trans hf) |>.symm
      obtain rfl : fn = Tryd.f3 := (Option.some.inj (Tryd.func3.symm.trans hfn)).symm
      exact ⟨by kernel_rfl, fun j t ht => by
        rw [Tryd.params3] at ht
        have hm : t ∈ [9] := by simpa using Array.mem_of_getElem? ht
        have hall : ([9].all fun u => !Tryd.prog.wantsStandIn u) = true := by kernel_rfl
        exact (show Tryd.prog.wantsStandIn t = false by simpa using List.all_eq_true.1 hall t hm)⟩)
    (by kernel_rfl)
end Go.Proofs.YtnjckcampgankaaDoor.lawExactReadPoint
