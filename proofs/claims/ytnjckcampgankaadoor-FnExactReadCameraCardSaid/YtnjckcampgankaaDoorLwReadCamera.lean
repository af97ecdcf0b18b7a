/- The law FnExactReadCamera: for every input the function ReadCamera answers as its model, and the law returns true. Condition: two tables of the library, which are not read, hold what the program's text lays there (the card ties them). -/
import Derived.Test.YtnjckcampgankaaDoorOpen
import Derived.Test.YtnjckcampgankaaDoorTxtG
import Derived.Test.YtnjckcampgankaaDoorSxK
import Derived.Test.YtnjckcampgankaaDoorSxS
import Derived.Test.YtnjckcampgankaaDoorLawA
import Derived.Test.YtnjckcampgankaaDoorTie
import Derived.Test.YtnjckcampgankaaDoorCards
import Derived.Deep.DeepHandedRow
import Derived.Lay
import Derived.LaidMore
import Derived.SevenTiedAt
namespace Go.Proofs.YtnjckcampgankaaDoor
open Go.ChangeShapes Go.WideShapes Go.ChangeAt Go.RowKit Go.Flo Go.Mem Go.Sx
set_option linter.unusedSimpArgs false
set_option linter.unusedVariables false
noncomputable def camCells : List C := [.f32 0, .f32 1, .f32 2, .f32 3, .f32 4, .f32 5, .f32 6, .f32 7, .f32 8, .f32 9, .f32 10]
structure CkCam (t : Tb) : Prop where
  out : bothB Tryd.prog sums 60 30 28 [.p (.one (.ptr 0 0))] [(0, camCells)] 1 29 [.p (.agg camCells)] [] 0 topN t = true
set_option maxRecDepth 100000 in
set_option maxHeartbeats 100000000 in
theorem checkedCam : CkCam ⟨11, vars 11, [], []⟩ := ⟨by kernel_rfl⟩
theorem camBoth (x0 x1 x2 x3 x4 x5 x6 x7 x8 x9 x10 : Nat) : ∃ b : Bool, (∀ (W : World) (g : Nat), g < W.heap.size → (∀ k x, [.float .f32 x0, .float .f32 x1, .float .f32 x2, .float .f32 x3, .float .f32 x4, .float .f32 x5, .float .f32 x6, .float .f32 x7, .float .f32 x8, .float .f32 x9, .float .f32 x10][k]? = some x → W.cell? ⟨g, k, none⟩ = some x) → Calls Tryd.prog 28 #[.pointer (some ⟨g, 0, none⟩)] W (Gives (isB b) W)) ∧
    (∀ W, Calls Tryd.prog 29 #[.agg #[.float .f32 x0, .float .f32 x1, .float .f32 x2, .float .f32 x3, .float .f32 x4, .float .f32 x5, .float .f32 x6, .float .f32 x7, .float .f32 x8, .float .f32 x9, .float .f32 x10]] W (Gives (isB b) W)) := by
  obtain ⟨b, h1, h2⟩ := bothB_sound (env := envOf [.f (kcv .f32 x0), .f (kcv .f32 x1), .f (kcv .f32 x2), .f (kcv .f32 x3), .f (kcv .f32 x4), .f (kcv .f32 x5), .f (kcv .f32 x6), .f (kcv .f32 x7), .f (kcv .f32 x8), .f (kcv .f32 x9), .f (kcv .f32 x10)]) follows (sums_ok _) (sums_ext _) checkedCam.out (vars_wf 11) (fun x hx => (by cases hx))
  have cells : ∀ (ms : Nat → Nat) (K : Nat → Prop), F2 (Cr (mkE (envOf [.f (kcv .f32 x0), .f (kcv .f32 x1), .f (kcv .f32 x2), .f (kcv .f32 x3), .f (kcv .f32 x4), .f (kcv .f32 x5), .f (kcv .f32 x6), .f (kcv .f32 x7), .f (kcv .f32 x8), .f (kcv .f32 x9), .f (kcv .f32 x10)]) ⟨11, vars 11, [], []⟩ ms K)) camCells [.float .f32 x0, .float .f32 x1, .float .f32 x2, .float .f32 x3, .float .f32 x4, .float .f32 x5, .float .f32 x6, .float .f32 x7, .float .f32 x8, .float .f32 x9, .float .f32 x10] := fun ms K => (.cons (var_f32 rfl rfl) (.cons (var_f32 rfl rfl) (.cons (var_f32 rfl rfl) (.cons (var_f32 rfl rfl) (.cons (var_f32 rfl rfl) (.cons (var_f32 rfl rfl) (.cons (var_f32 rfl rfl) (.cons (var_f32 rfl rfl) (.cons (var_f32 rfl rfl) (.cons (var_f32 rfl rfl) (.cons (var_f32 rfl rfl) .nil)))))))))))
  refine ⟨b, fun W g hg hc => ?_, fun W => ?_⟩
  · refine h1 (fun _ => g) (fun i => i = 0) [.pointer (some ⟨g, 0, none⟩)] W ⟨[(g, [.float .f32 x0, .float .f32 x1, .float .f32 x2, .float .f32 x3, .float .f32 x4, .float .f32 x5, .float .f32 x6, .float .f32 x7, .float .f32 x8, .float .f32 x9, .float .f32 x10])], .cons ⟨rfl, rfl, cells _ _⟩ .nil, ?_⟩ (.cons ⟨rfl, rfl⟩ .nil) (fun i h _ e => by omega)
    intro x hx
    simp only [List.mem_singleton] at hx
    subst hx
    exact ⟨hg, fun j x hx => by simpa using hc j x hx⟩
  · exact h2 (fun _ => 0) (fun _ => False) [.agg #[.float .f32 x0, .float .f32 x1, .float .f32 x2, .float .f32 x3, .float .f32 x4, .float .f32 x5, .float .f32 x6, .float .f32 x7, .float .f32 x8, .float .f32 x9, .float .f32 x10]] W ⟨[], .nil, fun x hx => (by cases hx)⟩ (.cons ⟨_, rfl, cells _ _⟩ .nil) (fun i _ _ h => h)
end Go.Proofs.YtnjckcampgankaaDoor
namespace Go.Proofs.YtnjckcampgankaaDoor.lawExactReadCamera
open Go.ChangeShapes Go.WideShapes Go.ChangeAt Go.RowKit Go.Flo Go.Mem Go.Sx
open Go.ChangeMaps (open_string shut_string)
set_option linter.unusedSimpArgs false
set_option linter.unusedVariables false
theorem cell5 {w W : World} {v : Value} (h5 : 5 < w.heap.size) (hm : w.cell? ⟨5, 0, none⟩ = some v) (hB : Below w.heap.size w W) : W.cell? ⟨5, 0, none⟩ = some v := (hB.cell (p := ⟨5, 0, none⟩) h5).trans hm
theorem lt5 {w W : World} (h5 : 5 < w.heap.size) (hB : Below w.heap.size w W) : 5 < W.heap.size := Nat.lt_of_lt_of_le h5 hB.size
structure CkE (t : Tb) : Prop where
  out : check Tryd.prog sums 60 30 12 [.p (.agg camCells), .p (.agg camCells)] topN t = true
set_option maxRecDepth 100000 in
set_option maxHeartbeats 100000000 in
theorem checkedE : CkE ⟨11, vars 11, [], []⟩ := ⟨by kernel_rfl⟩
theorem eqCam (x0 x1 x2 x3 x4 x5 x6 x7 x8 x9 x10 : Nat) (w : World) : Calls Tryd.prog 12 #[.agg #[.float .f32 x0, .float .f32 x1, .float .f32 x2, .float .f32 x3, .float .f32 x4, .float .f32 x5, .float .f32 x6, .float .f32 x7, .float .f32 x8, .float .f32 x9, .float .f32 x10], .agg #[.float .f32 x0, .float .f32 x1, .float .f32 x2, .float .f32 x3, .float .f32 x4, .float .f32 x5, .float .f32 x6, .float .f32 x7, .float .f32 x8, .float .f32 x9, .float .f32 x10]] w (Gives (isB true) w) := by
  have h : Holds (envOf [.f (kcv .f32 x0), .f (kcv .f32 x1), .f (kcv .f32 x2), .f (kcv .f32 x3), .f (kcv .f32 x4), .f (kcv .f32 x5), .f (kcv .f32 x6), .f (kcv .f32 x7), .f (kcv .f32 x8), .f (kcv .f32 x9), .f (kcv .f32 x10)]) Tryd.prog 12 [.p (.agg camCells), .p (.agg camCells)] ⟨11, vars 11, [], []⟩ := (check_holds follows (sums_ok _) (sums_ext _) checkedE.out)
  exact h (vars_wf 11) (fun x hx => (by cases hx)) [.agg #[.float .f32 x0, .float .f32 x1, .float .f32 x2, .float .f32 x3, .float .f32 x4, .float .f32 x5, .float .f32 x6, .float .f32 x7, .float .f32 x8, .float .f32 x9, .float .f32 x10], .agg #[.float .f32 x0, .float .f32 x1, .float .f32 x2, .float .f32 x3, .float .f32 x4, .float .f32 x5, .float .f32 x6, .float .f32 x7, .float .f32 x8, .float .f32 x9, .float .f32 x10]] (.cons ⟨_, rfl, (.cons (var_f32 rfl rfl) (.cons (var_f32 rfl rfl) (.cons (var_f32 rfl rfl) (.cons (var_f32 rfl rfl) (.cons (var_f32 rfl rfl) (.cons (var_f32 rfl rfl) (.cons (var_f32 rfl rfl) (.cons (var_f32 rfl rfl) (.cons (var_f32 rfl rfl) (.cons (var_f32 rfl rfl) (.cons (var_f32 rfl rfl) .nil)))))))))))⟩ (.cons ⟨_, rfl, (.cons (var_f32 rfl rfl) (.cons (var_f32 rfl rfl) (.cons (var_f32 rfl rfl) (.cons (var_f32 rfl rfl) (.cons (var_f32 rfl rfl) (.cons (var_f32 rfl rfl) (.cons (var_f32 rfl rfl) (.cons (var_f32 rfl rfl) (.cons (var_f32 rfl rfl) (.cons (var_f32 rfl rfl) (.cons (var_f32 rfl rfl) .nil)))))))))))⟩ .nil)) w
/-- both sides answer the same -/
theorem sides (s : ByteArray) (hs : s.size ≤ 1048576) : ∃ (x0 x1 x2 x3 x4 x5 x6 x7 x8 x9 x10 : Nat) (k : Int), (∀ w, Calls Tryd.prog 10 #[.string s] w (Gives (fun v => v = .tuple #[.agg #[.float .f32 x0, .float .f32 x1, .float .f32 x2, .float .f32 x3, .float .f32 x4, .float .f32 x5, .float .f32 x6, .float .f32 x7, .float .f32 x8, .float .f32 x9, .float .f32 x10], .int .i64 k]) w)) ∧
    (∀ (w : World) (m : Int), 5 < w.heap.size → w.cell? ⟨5, 0, none⟩ = some (.int .i64 m) → Calls Tryd.prog 11 #[.string s] w (Gives (fun v => v = .tuple #[.agg #[.float .f32 x0, .float .f32 x1, .float .f32 x2, .float .f32 x3, .float .f32 x4, .float .f32 x5, .float .f32 x6, .float .f32 x7, .float .f32 x8, .float .f32 x9, .float .f32 x10], .int .i64 k]) w)) := by
  by_cases hl : (segsB s).length = 12
  · obtain ⟨w0, ws, hw⟩ : ∃ w0 ws, segsB s = w0 :: ws := by
      cases h : segsB s with
      | nil => rw [h] at hl; simp at hl
      | cons a l => exact ⟨a, l, rfl⟩
    have hl' : ws.length = 11 := by rw [hw] at hl; simpa using hl
    cases h0 : (w0.toList == [99, 97, 109, 101, 114, 97]) with
    | false => exact ⟨0, 0, 0, 0, 0, 0, 0, 0, 0, 0, 0, 5, fun w => ReadCameraS1 s w hs hw hl' h0, fun w m h5 hm => ReadCameraI1 s w h5 hm hs hw hl' h0⟩
    | true =>
      cases hn : numsV ws with
      | none => exact ⟨0, 0, 0, 0, 0, 0, 0, 0, 0, 0, 0, 5, fun w => ReadCameraS2 s w hs hw hl' h0 hn, fun w m h5 hm => ReadCameraI4 s w h5 hm hs hw hl' h0 _ (fun _ => rfl) (fun _ _ _ _ _ _ _ _ _ _ _ h => by rw [hn] at h; cases h)⟩
      | some ns =>
        have hln : ns.length = 11 := by rw [numsV_len hn, hl']
        obtain ⟨x0, x1, x2, x3, x4, x5, x6, x7, x8, x9, x10, rfl⟩ : ∃ x0 x1 x2 x3 x4 x5 x6 x7 x8 x9 x10, ns = [x0, x1, x2, x3, x4, x5, x6, x7, x8, x9, x10] := by
          match ns, hln with
          | [x0, x1, x2, x3, x4, x5, x6, x7, x8, x9, x10], _ => exact ⟨x0, x1, x2, x3, x4, x5, x6, x7, x8, x9, x10, rfl⟩
        obtain ⟨b, hS, hI⟩ := camBoth x0 x1 x2 x3 x4 x5 x6 x7 x8 x9 x10
        have hY : ∀ y0 y1 y2 y3 y4 y5 y6 y7 y8 y9 y10, numsV ws = some [y0, y1, y2, y3, y4, y5, y6, y7, y8, y9, y10] → ∃ b' : Bool, (if b then Value.tuple #[camV x0 x1 x2 x3 x4 x5 x6 x7 x8 x9 x10, .int .i64 0] else .tuple #[zero11, .int .i64 5]) = (if b' then .tuple #[camV y0 y1 y2 y3 y4 y5 y6 y7 y8 y9 y10, .int .i64 0] else .tuple #[zero11, .int .i64 5]) ∧ ∀ W, Calls Tryd.prog 29 #[camV y0 y1 y2 y3 y4 y5 y6 y7 y8 y9 y10] W (Gives (isB b') W) := by
          intro y0 y1 y2 y3 y4 y5 y6 y7 y8 y9 y10 h
          rw [hn] at h
          cases h
          exact ⟨b, rfl, hI⟩
        have h4 := fun w => ReadCameraS4 s w hs hw hl' h0 hn b hS
        have g4 := fun (w : World) (m : Int) h5 hm => ReadCameraI4 s w (m := m) h5 hm hs hw hl' h0 _ (fun h => by rw [hn] at h; cases h) hY
        cases b
        · exact ⟨0, 0, 0, 0, 0, 0, 0, 0, 0, 0, 0, 5, h4, g4⟩
        · exact ⟨x0, x1, x2, x3, x4, x5, x6, x7, x8, x9, x10, 0, h4, g4⟩
  · exact ⟨0, 0, 0, 0, 0, 0, 0, 0, 0, 0, 0, 5, fun w => ReadCameraS3 s w hs hl, fun w m h5 hm => ReadCameraI3 s w h5 hm hs hl⟩
set_option maxRecDepth 20000 in
set_option maxHeartbeats 4000000 in
theorem law (txt : ByteArray) (w : World) {m : Int} (h5 : 5 < w.heap.size) (hm : w.cell? ⟨5, 0, none⟩ = some (.int .i64 m)) :
    Calls Tryd.prog 4 #[.string txt] w (Gives (isB true) w) := by
  by_cases hs : txt.size ≤ 1048576
  · have hs' : ¬ ((txt.size : Int) > 1048576) := by omega
    obtain ⟨x0, x1, x2, x3, x4, x5, x6, x7, x8, x9, x10, k, hS, hI⟩ := sides txt hs
    have H : Aside ((∀ w, Calls Tryd.prog 10 #[.string txt] w (Gives (fun v => v = .tuple #[.agg #[.float .f32 x0, .float .f32 x1, .float .f32 x2, .float .f32 x3, .float .f32 x4, .float .f32 x5, .float .f32 x6, .float .f32 x7, .float .f32 x8, .float .f32 x9, .float .f32 x10], .int .i64 k]) w)) ∧
      (∀ (w : World) (m : Int), 5 < w.heap.size → w.cell? ⟨5, 0, none⟩ = some (.int .i64 m) → Calls Tryd.prog 11 #[.string txt] w (Gives (fun v => v = .tuple #[.agg #[.float .f32 x0, .float .f32 x1, .float .f32 x2, .float .f32 x3, .float .f32 x4, .float .f32 x5, .float .f32 x6, .float .f32 x7, .float .f32 x8, .float .f32 x9, .float .f32 x10], .int .i64 k]) w)) ∧ 5 < w.heap.size ∧ w.cell? ⟨5, 0, none⟩ = some (.int .i64 m)) := ⟨hS, hI, h5, hm⟩
    clear hs h5 hm hS hI
    have hkk : (k != k) = false := by simp
    go_enter Tryd.func4, Tryd.ntmps4
    go_wp2_with (first
      | (go_at_call 10; refine (H.out.1 _).mono ?_; rintro e w1 ⟨v1, rfl, rfl, hb⟩; have HB1 : Aside _ := hb; clear hb)
      | (go_at_call 11; refine (H.out.2.1 _ m (lt5 H.out.2.2.1 (below_alloc HB1.out)) (cell5 H.out.2.2.1 H.out.2.2.2 (below_alloc HB1.out))).mono ?_; rintro e w2 ⟨v2, rfl, rfl, hb⟩; obtain ⟨hc2, hf2⟩ := bcell hb; have hz2 : w1.heap.size < w2.heap.size := (by have := hb.size; (try simp at this); omega); have hz3 : ¬ w1.heap.size = w2.heap.size := Nat.ne_of_lt hz2; (try simp at hc2 hf2); have HB2 : Aside _ := below_step hb (below_alloc HB1.out); clear hb)
      | (go_at_call 12; refine (eqCam x0 x1 x2 x3 x4 x5 x6 x7 x8 x9 x10 _).mono ?_; rintro e w3 ⟨v3, rfl, hv, hb⟩; (simp only [isB] at hv; subst hv); have HB3 : Aside _ := below_step hb (below_alloc HB2.out); clear hb))
    all_goals simp [bodyPost, results, Tryd.results4, go_sem]
    all_goals exact ⟨_, rfl, rfl, HB3.out⟩
  · have hs' : ((txt.size : Int) > 1048576) := by omega
    go_enter Tryd.func4, Tryd.ntmps4
    go_wp2_with fail
    all_goals simp [bodyPost, results, Tryd.results4, go_sem]
    all_goals exact ⟨_, rfl, rfl, Below.refl _ _⟩
theorem ownKnob0 : ownKnob Tryd.prog.godebug = none := by kernel_rfl
set_option maxRecDepth 100000 in
theorem lifted (os : Os) (started : os.Started) (H : Type) (enc : TypeId × Value → H) :
    ReturnsInHanded {} Tryd.checked os 4 .any (fun w args => (Rows.fnExactReadCameraSpec.pre enc Tryd.prog Tryd.f4 Rows.fnExactReadCameraRow.domain false w args ∧ laidMetH Tryd.prog Rows.fnExactReadCameraRow.laid w) ∧ sizedMet enc Tryd.prog Tryd.f4 (OpenSpec.ofChange Rows.fnExactReadCameraSpec) false w args)
      (Rows.fnExactReadCameraSpec.post enc Tryd.prog Tryd.f4 false true false false) := by
  refine returnsInHanded_of_row (C := Tryd.checked) (s := OpenSpec.ofChange Rows.fnExactReadCameraSpec) (F := fun _ _ _ => 0) (conds := Rows.fnExactReadCameraRow.domain) (laid := Rows.fnExactReadCameraRow.laid) ownKnob0 started (by kernel_rfl) Tryd.func4
    (ChangeSpec.witness_shaped (enc := enc) (C := Tryd.checked) (os := os) (X := fun w _ => laidMetH Tryd.prog Rows.fnExactReadCameraRow.laid w) false (World.laidAll Tryd.prog os Rows.fnExactReadCameraRow.laid) #[.string ByteArray.empty] 8 (World.laidAll_os _ _ _)
      (World.shaped_of_ZipB (by kernel_rfl) (by kernel_rfl)) (by kernel_rfl) (by kernel_rfl) (by kernel_rfl)
      (by rw [MakeChecks.laidMetH_plain _ _ _ (by kernel_rfl)]; exact laidMet_laidAll _ (by kernel_rfl) (by kernel_rfl))) ?_
  intro W base args ds gs before hval0 hW _ _ _ hL hsh _
  have hval : ∀ (j : Nat) t v, Tryd.f4.params[j]? = some t → args[j]? = some v → Value.okWide Tryd.prog W .any base t v := hval0
  have hW' := hW
  obtain ⟨p, q, hA0, hV, rfl, hfz, hnd⟩ := hW
  have hA : DataW.TrodAll enc Tryd.prog W 0 (fun _ => true) true Tryd.f4.params.toList args.toList ds p := hA0
  rw [Tryd.params4] at hA hval
  obtain ⟨v0, vs0, d0, ds0, p0, q0, hargs, rfl, rfl, h0, r0⟩ := trodAll_cons hA
  obtain ⟨rfl, rfl, rfl⟩ := trodAll_nil r0
  obtain rfl : args = #[v0] := by cases args; simp_all
  obtain ⟨rfl, rfl⟩ := trodVars_none hV
  have k0 := h0
  have lt0 := lt_of_trod h0
  obtain ⟨x0, rfl, rfl, rfl, w0⟩ := open_string Tryd.underlying9 (hval 0 9 v0 rfl rfl) h0
  clear hA0 hval0
  obtain ⟨m, hm⟩ := Tryd.laysM147.s1_3 W hsh
  have h5 : 5 < W.heap.size := World.block_lt_of_cell? W _ hm
  refine (law x0 W h5 hm).mono fun e W' hq => ?_
  obtain ⟨v, rfl, rfl, bel⟩ := hq
  exact ⟨_, rfl, _, _, _, [], _, [], hW', trodAll_mk1 (shut_bool Tryd.underlying4 _), (trodAll_cons_mk (Below.trod laidOut (by kernel_rfl) (of_decide_eq_true (by kernel_rfl)) k0 bel lt0) trodAll_mk0), rfl, bel.frame _, fun h => by cases h⟩
theorem over : Rows.fnExactReadCameraRow.holds Tryd.pinned (OpenSpec.ofChange Rows.fnExactReadCameraSpec) :=
  OpenClaim.holds_of_wide 4 Tryd.f4 rfl rfl rfl rfl rfl rfl rfl ⟨rfl, rfl, rfl, rfl, rfl⟩ rfl rfl rfl rfl rfl (by kernel_rfl) Tryd.func4 (by kernel_rfl)
    (of_decide_eq_true (by kernel_rfl)) (by unfold Func.isWrapper; rw [if_neg (of_decide_eq_false (by kernel_rfl))]; exact ⟨rfl, rfl⟩)
    (fun os started H enc _ => lifted os started H enc)
theorem proved : Rows.FnExactReadCameraCardSaid :=
  Claim7.holds_tied_plain_at .later [] Rows.fnExactReadCameraCard.laidKinds true Rows.fnExactReadCameraCard.stood.harness Rows.fnExactReadCameraCard.stood.looks
    over (fun _ h => by cases h) (by kernel_rfl) (fun _ h => by cases h) fnExactReadCamera_row_tie rfl ⟨rfl, rfl⟩ (by kernel_rfl) rfl
    (fun f fn hf hfn => by
      obtain rfl : f = 4 := Option.some.inj ((show Tryd.prog.funcNamed Rows.fnExactReadCameraRow.func = some 4 by kernel_rfl).symm.trans hf) |>.symm
      obtain rfl : fn = Tryd.f4 := (Option.some.inj (Tryd.func4.symm.trans hfn)).symm
      exact ⟨by kernel_rfl, fun j t ht => by
        rw [Tryd.params4] at ht
        have hm : t ∈ [9] := by simpa using Array.mem_of_getElem? ht
        have hall : ([9].all fun u => !Tryd.prog.wantsStandIn u) = true := by kernel_rfl
        exact (show Tryd.prog.wantsStandIn t = false by simpa using List.all_eq_true.1 hall t hm)⟩)
    (by kernel_rfl)
end Go.Proofs.YtnjckcampgankaaDoor.lawExactReadCamera
