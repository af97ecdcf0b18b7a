/- The law FnExactReadMap: for every input the function ReadMap answers as its model, and the law returns true. Condition: two tables of the library, which are not read, hold what the program's text lays there (the card ties them). -/
import Derived.Test.YtljpggeogiabgaaDoorOpen
import Derived.Test.YtljpggeogiabgaaDoorTxtP
import Derived.Test.YtljpggeogiabgaaDoorSxK
import Derived.Test.YtljpggeogiabgaaDoorSxS
import Derived.Test.YtljpggeogiabgaaDoorLawA
import Derived.Test.YtljpggeogiabgaaDoorTie
import Derived.Test.YtljpggeogiabgaaDoorCards
import Derived.Deep.DeepHandedRow
import Derived.Lay
import Derived.LaidMore
import Derived.SevenTiedAt
namespace Go.Proofs.YtljpggeogiabgaaDoor
open Go.ChangeShapes Go.WideShapes Go.ChangeAt Go.RowKit Go.Flo Go.Mem Go.Sx
set_option linter.unusedSimpArgs false
set_option linter.unusedVariables false
noncomputable def mapCells : List C := [.f32 0, .f32 1, .f32 2, .f32 3, .f32 4, .f32 5, .f32 6, .f32 7, .f32 8]
structure CkMap (t : Tb) : Prop where
  out : bothB Tryd.prog sums 60 30 13 [.p (.one (.ptr 0 0))] [(0, mapCells)] 1 16 [.p (.agg mapCells)] [] 0 topN t = true
set_option maxRecDepth 100000 in
set_option maxHeartbeats 100000000 in
theorem checkedMap : CkMap ⟨9, vars 9, [], []⟩ := ⟨by kernel_rfl⟩
theorem mapBoth (x0 x1 x2 x3 x4 x5 x6 x7 x8 : Nat) : ∃ b : Bool, (∀ (W : World) (g : Nat), g < W.heap.size → (∀ k x, [.float .f32 x0, .float .f32 x1, .float .f32 x2, .float .f32 x3, .float .f32 x4, .float .f32 x5, .float .f32 x6, .float .f32 x7, .float .f32 x8][k]? = some x → W.cell? ⟨g, k, none⟩ = some x) → Calls Tryd.prog 13 #[.pointer (some ⟨g, 0, none⟩)] W (Gives (isB b) W)) ∧
    (∀ W, Calls Tryd.prog 16 #[.agg #[.float .f32 x0, .float .f32 x1, .float .f32 x2, .float .f32 x3, .float .f32 x4, .float .f32 x5, .float .f32 x6, .float .f32 x7, .float .f32 x8]] W (Gives (isB b) W)) := by
  obtain ⟨b, h1, h2⟩ := bothB_sound (env := envOf [.f (kcv .f32 x0), .f (kcv .f32 x1), .f (kcv .f32 x2), .f (kcv .f32 x3), .f (kcv .f32 x4), .f (kcv .f32 x5), .f (kcv .f32 x6), .f (kcv .f32 x7), .f (kcv .f32 x8)]) follows (sums_ok _) (sums_ext _) checkedMap.out (vars_wf 9) (fun x hx => (by cases hx))
  have cells : ∀ (ms : Nat → Nat) (K : Nat → Prop), F2 (Cr (mkE (envOf [.f (kcv .f32 x0), .f (kcv .f32 x1), .f (kcv .f32 x2), .f (kcv .f32 x3), .f (kcv .f32 x4), .f (kcv .f32 x5), .f (kcv .f32 x6), .f (kcv .f32 x7), .f (kcv .f32 x8)]) ⟨9, vars 9, [], []⟩ ms K)) mapCells [.float .f32 x0, .float .f32 x1, .float .f32 x2, .float .f32 x3, .float .f32 x4, .float .f32 x5, .float .f32 x6, .float .f32 x7, .float .f32 x8] := fun ms K => (.cons (var_f32 rfl rfl) (.cons (var_f32 rfl rfl) (.cons (var_f32 rfl rfl) (.cons (var_f32 rfl rfl) (.cons (var_f32 rfl rfl) (.cons (var_f32 rfl rfl) (.cons (var_f32 rfl rfl) (.cons (var_f32 rfl rfl) (.cons (var_f32 rfl rfl) .nil)))))))))
  refine ⟨b, fun W g hg hc => ?_, fun W => ?_⟩
  · refine h1 (fun _ => g) (fun i => i = 0) [.pointer (some ⟨g, 0, none⟩)] W ⟨[(g, [.float .f32 x0, .float .f32 x1, .float .f32 x2, .float .f32 x3, .float .f32 x4, .float .f32 x5, .float .f32 x6, .float .f32 x7, .float .f32 x8])], .cons ⟨rfl, rfl, cells _ _⟩ .nil, ?_⟩ (.cons ⟨rfl, rfl⟩ .nil) (fun i h _ e => by omega)
    intro x hx
    simp only [List.mem_singleton] at hx
    subst hx
    exact ⟨hg, fun j x hx => by simpa using hc j x hx⟩
  · exact h2 (fun _ => 0) (fun _ => False) [.agg #[.float .f32 x0, .float .f32 x1, .float .f32 x2, .float .f32 x3, .float .f32 x4, .float .f32 x5, .float .f32 x6, .float .f32 x7, .float .f32 x8]] W ⟨[], .nil, fun x hx => (by cases hx)⟩ (.cons ⟨_, rfl, cells _ _⟩ .nil) (fun i _ _ h => h)
end Go.Proofs.YtljpggeogiabgaaDoor
namespace Go.Proofs.YtljpggeogiabgaaDoor.lawExactReadMap
open Go.ChangeShapes Go.WideShapes Go.ChangeAt Go.RowKit Go.Flo Go.Mem Go.Sx
open Go.ChangeMaps (open_string shut_string)
set_option linter.unusedSimpArgs false
set_option linter.unusedVariables false
theorem cell5 {w W : World} {v : Value} (h5 : 1 < w.heap.size) (hm : w.cell? ⟨1, 0, none⟩ = some v) (hB : Below w.heap.size w W) : W.cell? ⟨1, 0, none⟩ = some v := (hB.cell (p := ⟨1, 0, none⟩) h5).trans hm
theorem lt5 {w W : World} (h5 : 1 < w.heap.size) (hB : Below w.heap.size w W) : 1 < W.heap.size := Nat.lt_of_lt_of_le h5 hB.size
structure CkE (t : Tb) : Prop where
  out : check Tryd.prog sums 60 30 7 [.p (.agg mapCells), .p (.agg mapCells)] topN t = true
set_option maxRecDepth 100000 in
set_option maxHeartbeats 100000000 in
theorem checkedE : CkE ⟨9, vars 9, [], []⟩ := ⟨by kernel_rfl⟩
theorem eqM9 (x0 x1 x2 x3 x4 x5 x6 x7 x8 : Nat) (w : World) : Calls Tryd.prog 7 #[.agg #[.float .f32 x0, .float .f32 x1, .float .f32 x2, .float .f32 x3, .float .f32 x4, .float .f32 x5, .float .f32 x6, .float .f32 x7, .float .f32 x8], .agg #[.float .f32 x0, .float .f32 x1, .float .f32 x2, .float .f32 x3, .float .f32 x4, .float .f32 x5, .float .f32 x6, .float .f32 x7, .float .f32 x8]] w (Gives (isB true) w) := by
  have h : Holds (envOf [.f (kcv .f32 x0), .f (kcv .f32 x1), .f (kcv .f32 x2), .f (kcv .f32 x3), .f (kcv .f32 x4), .f (kcv .f32 x5), .f (kcv .f32 x6), .f (kcv .f32 x7), .f (kcv .f32 x8)]) Tryd.prog 7 [.p (.agg mapCells), .p (.agg mapCells)] ⟨9, vars 9, [], []⟩ := (check_holds follows (sums_ok _) (sums_ext _) checkedE.out)
  exact h (vars_wf 9) (fun x hx => (by cases hx)) [.agg #[.float .f32 x0, .float .f32 x1, .float .f32 x2, .float .f32 x3, .float .f32 x4, .float .f32 x5, .float .f32 x6, .float .f32 x7, .float .f32 x8], .agg #[.float .f32 x0, .float .f32 x1, .float .f32 x2, .float .f32 x3, .float .f32 x4, .float .f32 x5, .float .f32 x6, .float .f32 x7, .float .f32 x8]] (.cons ⟨_, rfl, (.cons (var_f32 rfl rfl) (.cons (var_f32 rfl rfl) (.cons (var_f32 rfl rfl) (.cons (var_f32 rfl rfl) (.cons (var_f32 rfl rfl) (.cons (var_f32 rfl rfl) (.cons (var_f32 rfl rfl) (.cons (var_f32 rfl rfl) (.cons (var_f32 rfl rfl) .nil)))))))))⟩ (.cons ⟨_, rfl, (.cons (var_f32 rfl rfl) (.cons (var_f32 rfl rfl) (.cons (var_f32 rfl rfl) (.cons (var_f32 rfl rfl) (.cons (var_f32 rfl rfl) (.cons (var_f32 rfl rfl) (.cons (var_f32 rfl rfl) (.cons (var_f32 rfl rfl) (.cons (var_f32 rfl rfl) .nil)))))))))⟩ .nil)) w
/-- both sides answer the same -/
theorem sides (s : ByteArray) (hs : s.size ≤ 1048576) : ∃ (x0 x1 x2 x3 x4 x5 x6 x7 x8 : Nat) (k : Int), (∀ w, Calls Tryd.prog 5 #[.string s] w (Gives (fun v => v = .tuple #[.agg #[.float .f32 x0, .float .f32 x1, .float .f32 x2, .float .f32 x3, .float .f32 x4, .float .f32 x5, .float .f32 x6, .float .f32 x7, .float .f32 x8], .int .i64 k]) w)) ∧
    (∀ (w : World) (m : Int), 1 < w.heap.size → w.cell? ⟨1, 0, none⟩ = some (.int .i64 m) → Calls Tryd.prog 6 #[.string s] w (Gives (fun v => v = .tuple #[.agg #[.float .f32 x0, .float .f32 x1, .float .f32 x2, .float .f32 x3, .float .f32 x4, .float .f32 x5, .float .f32 x6, .float .f32 x7, .float .f32 x8], .int .i64 k]) w)) := by
  by_cases hl : (segsB s).length = 9
  · cases hn : numsV (segsB s) with
    | none => exact ⟨0, 0, 0, 0, 0, 0, 0, 0, 0, 5, fun w => ReadMapS0 s w hs hn, fun w m h5 hm => ReadMapI1 s w h5 hm hs rfl hl _ (fun _ => rfl) (fun _ _ _ _ _ _ _ _ _ h => by rw [hn] at h; cases h)⟩
    | some ns =>
      have hln : ns.length = 9 := by rw [numsV_len hn, hl]
      obtain ⟨x0, x1, x2, x3, x4, x5, x6, x7, x8, rfl⟩ : ∃ x0 x1 x2 x3 x4 x5 x6 x7 x8, ns = [x0, x1, x2, x3, x4, x5, x6, x7, x8] := by
        match ns, hln with
        | [x0, x1, x2, x3, x4, x5, x6, x7, x8], _ => exact ⟨x0, x1, x2, x3, x4, x5, x6, x7, x8, rfl⟩
      obtain ⟨b, hS, hI⟩ := mapBoth x0 x1 x2 x3 x4 x5 x6 x7 x8
      have hY : ∀ y0 y1 y2 y3 y4 y5 y6 y7 y8, numsV (segsB s) = some [y0, y1, y2, y3, y4, y5, y6, y7, y8] → ∃ b' : Bool, (if b then Value.tuple #[mapV x0 x1 x2 x3 x4 x5 x6 x7 x8, .int .i64 0] else .tuple #[zero9, .int .i64 5]) = (if b' then .tuple #[mapV y0 y1 y2 y3 y4 y5 y6 y7 y8, .int .i64 0] else .tuple #[zero9, .int .i64 5]) ∧ ∀ W, Calls Tryd.prog 16 #[mapV y0 y1 y2 y3 y4 y5 y6 y7 y8] W (Gives (isB b') W) := by
        intro y0 y1 y2 y3 y4 y5 y6 y7 y8 h
        rw [hn] at h
        cases h
        exact ⟨b, rfl, hI⟩
      have h4 := fun w => ReadMapS2 s w hs hn b hS
      have g4 := fun (w : World) (m : Int) h5 hm => ReadMapI1 s w (m := m) h5 hm hs rfl hl _ (fun h => by rw [hn] at h; cases h) hY
      cases b
      · exact ⟨0, 0, 0, 0, 0, 0, 0, 0, 0, 5, h4, g4⟩
      · exact ⟨x0, x1, x2, x3, x4, x5, x6, x7, x8, 0, h4, g4⟩
  · have hS : ∀ w, Calls Tryd.prog 5 #[.string s] w (Gives (fun v => v = .tuple #[zero9, .int .i64 5]) w) := fun w => by
      cases hn : numsV (segsB s) with
      | none => exact ReadMapS0 s w hs hn
      | some ns => exact ReadMapS1 s w hs hn (by rw [numsV_len hn]; exact hl)
    exact ⟨0, 0, 0, 0, 0, 0, 0, 0, 0, 5, hS, fun w m h5 hm => ReadMapI0 s w h5 hm hs hl⟩
set_option maxRecDepth 20000 in
set_option maxHeartbeats 4000000 in
theorem law (txt : ByteArray) (w : World) {m : Int} (h5 : 1 < w.heap.size) (hm : w.cell? ⟨1, 0, none⟩ = some (.int .i64 m)) :
    Calls Tryd.prog 3 #[.string txt] w (Gives (isB true) w) := by
  by_cases hs : txt.size ≤ 1048576
  · have hs' : ¬ ((txt.size : Int) > 1048576) := by omega
    obtain ⟨x0, x1, x2, x3, x4, x5, x6, x7, x8, k, hS, hI⟩ := sides txt hs
    have H : Aside ((∀ w, Calls Tryd.prog 5 #[.string txt] w (Gives (fun v => v = .tuple #[.agg #[.float .f32 x0, .float .f32 x1, .float .f32 x2, .float .f32 x3, .float .f32 x4, .float .f32 x5, .float .f32 x6, .float .f32 x7, .float .f32 x8], .int .i64 k]) w)) ∧
      (∀ (w : World) (m : Int), 1 < w.heap.size → w.cell? ⟨1, 0, none⟩ = some (.int .i64 m) → Calls Tryd.prog 6 #[.string txt] w (Gives (fun v => v = .tuple #[.agg #[.float .f32 x0, .float .f32 x1, .float .f32 x2, .float .f32 x3, .float .f32 x4, .float .f32 x5, .float .f32 x6, .float .f32 x7, .float .f32 x8], .int .i64 k]) w)) ∧ 1 < w.heap.size ∧ w.cell? ⟨1, 0, none⟩ = some (.int .i64 m)) := ⟨hS, hI, h5, hm⟩
    clear hs h5 hm hS hI
    have hkk : (k != k) = false := by simp
    go_enter Tryd.func3, Tryd.ntmps3
    go_wp2_with (first
      | (go_at_call 5; refine (H.out.1 _).mono ?_; rintro e w1 ⟨v1, rfl, rfl, hb⟩; have HB1 : Aside _ := hb; clear hb)
      | (go_at_call 6; refine (H.out.2.1 _ m (lt5 H.out.2.2.1 (below_alloc HB1.out)) (cell5 H.out.2.2.1 H.out.2.2.2 (below_alloc HB1.out))).mono ?_; rintro e w2 ⟨v2, rfl, rfl, hb⟩; obtain ⟨hc2, hf2⟩ := bcell hb; have hz2 : w1.heap.size < w2.heap.size := (by have := hb.size; (try simp at this); omega); have hz3 : ¬ w1.heap.size = w2.heap.size := Nat.ne_of_lt hz2; (try simp at hc2 hf2); have HB2 : Aside _ := below_step hb (below_alloc HB1.out); clear hb)
      | (go_at_call 7; refine (eqM9 x0 x1 x2 x3 x4 x5 x6 x7 x8 _).mono ?_; rintro e w3 ⟨v3, rfl, hv, hb⟩; (simp only [isB] at hv; subst hv); have HB3 : Aside _ := below_step hb (below_alloc HB2.out); clear hb))
    all_goals simp [bodyPost, results, Tryd.results3, go_sem]
    all_goals exact ⟨_, rfl, rfl, HB3.out⟩
  · have hs' : ((txt.size : Int) > 1048576) := by omega
    go_enter Tryd.func3, Tryd.ntmps3
    go_wp2_with fail
    all_goals simp [bodyPost, results, Tryd.results3, go_sem]
    all_goals exact ⟨_, rfl, rfl, Below.refl _ _⟩
theorem ownKnob0 : ownKnob Tryd.prog.godebug = none := by kernel_rfl
set_option maxRecDepth 100000 in
theorem lifted (os : Os) (started : os.Started) (H : Type) (enc : TypeId × Value → H) :
    ReturnsInHanded {} Tryd.checked os 3 .any (fun w args => (Rows.fnExactReadMapSpec.pre enc Tryd.prog Tryd.f3 Rows.fnExactReadMapRow.domain false w args ∧ laidMetH Tryd.prog Rows.fnExactReadMapRow.laid w) ∧ sizedMet enc Tryd.prog Tryd.f3 (OpenSpec.ofChange Rows.fnExactReadMapSpec) false w args)
      (Rows.fnExactReadMapSpec.post enc Tryd.prog Tryd.f3 false true false false) := by
  refine returnsInHanded_of_row (C := Tryd.checked) (s := OpenSpec.ofChange Rows.fnExactReadMapSpec) (F := fun _ _ _ => 0) (conds := Rows.fnExactReadMapRow.domain) (laid := Rows.fnExactReadMapRow.laid) ownKnob0 started (by kernel_rfl) Tryd.func3
    (ChangeSpec.witness_shaped (enc := enc) (C := Tryd.checked) (os := os) (X := fun w _ => laidMetH Tryd.prog Rows.fnExactReadMapRow.laid w) false (World.laidAll Tryd.prog os Rows.fnExactReadMapRow.laid) #[.string ByteArray.empty] 8 (World.laidAll_os _ _ _)
      (World.shaped_of_ZipB (by kernel_rfl) (by kernel_rfl)) (by kernel_rfl) (by kernel_rfl) (by kernel_rfl)
      (by rw [MakeChecks.laidMetH_plain _ _ _ (by kernel_rfl)]; exact laidMet_laidAll _ (by kernel_rfl) (by kernel_rfl))) ?_
  intro W base args ds gs before hval0 hW _ _ _ hL hsh _
  have hval : ∀ (j : Nat) t v, Tryd.f3.params[j]? = some t → args[j]? = some v → Value.okWide Tryd.prog W .any base t v := hval0
  have hW' := hW
  obtain ⟨p, q, hA0, hV, rfl, hfz, hnd⟩ := hW
  have hA : DataW.TrodAll enc Tryd.prog W 0 (fun _ => true) true Tryd.f3.params.toList args.toList ds p := hA0
  rw [Tryd.params3] at hA hval
  obtain ⟨v0, vs0, d0, ds0, p0, q0, hargs, rfl, rfl, h0, r0⟩ := trodAll_cons hA
  obtain ⟨rfl, rfl, rfl⟩ := trodAll_nil r0
  obtain rfl : args = #[v0] := by cases args; simp_all
  obtain ⟨rfl, rfl⟩ := trodVars_none hV
  have k0 := h0
  have lt0 := lt_of_trod h0
  obtain ⟨x0, rfl, rfl, rfl, w0⟩ := open_string Tryd.underlying9 (hval 0 9 v0 rfl rfl) h0
  clear hA0 hval0
  obtain ⟨m, hm⟩ := Tryd.laysM147.s1_3 W hsh
  have h5 : 1 < W.heap.size := World.block_lt_of_cell? W _ hm
  refine (law x0 W h5 hm).mono fun e W' hq => ?_
  obtain ⟨v, rfl, rfl, bel⟩ := hq
  exact ⟨_, rfl, _, _, _, [], _, [], hW', trodAll_mk1 (shut_bool Tryd.underlying4 _), (trodAll_cons_mk (Below.trod laidOut (by kernel_rfl) (of_decide_eq_true (by kernel_rfl)) k0 bel lt0) trodAll_mk0), rfl, bel.frame _, fun h => by cases h⟩
theorem over : Rows.fnExactReadMapRow.holds Tryd.pinned (OpenSpec.ofChange Rows.fnExactReadMapSpec) :=
  OpenClaim.holds_of_wide 3 Tryd.f3 rfl rfl rfl rfl rfl rfl rfl ⟨rfl, rfl, rfl, rfl, rfl⟩ rfl rfl rfl rfl rfl (by kernel_rfl) Tryd.func3 (by kernel_rfl)
    (of_decide_eq_true (by kernel_rfl)) (by unfold Func.isWrapper; rw [if_neg (of_decide_eq_false (by kernel_rfl))]; exact ⟨rfl, rfl⟩)
    (fun os started H enc _ => lifted os started H enc)
theorem proved : Rows.FnExactReadMapCardSaid :=
  Claim7.holds_tied_plain_at .later [] Rows.fnExactReadMapCard.laidKinds true Rows.fnExactReadMapCard.stood.harness Rows.fnExactReadMapCard.stood.looks
    over (fun _ h => by cases h) (by kernel_rfl) (fun _ h => by cases h) fnExactReadMap_row_tie rfl ⟨rfl, rfl⟩ (by kernel_rfl) rfl
    (fun f fn hf hfn => by
      obtain rfl : f = 3 := Option.some.inj ((show Tryd.prog.funcNamed Rows.fnExactReadMapRow.func = some 3 by kernel_rfl).symm.trans hf) |>.symm
      obtain rfl : fn = Tryd.f3 := (Option.some.inj (Tryd.func3.symm.trans hfn)).symm
      exact ⟨by kernel_rfl, fun j t ht => by
        rw [Tryd.params3] at ht
        have hm : t ∈ [9] := by simpa using Array.mem_of_getElem? ht
        have hall : ([9].all fun u => !Tryd.prog.wantsStandIn u) = true := by kernel_rfl
        exact (show Tryd.prog.wantsStandIn t = false by simpa using List.all_eq_true.1 hall t hm)⟩)
    (by kernel_rfl)
end Go.Proofs.YtljpggeogiabgaaDoor.lawExactReadMap
