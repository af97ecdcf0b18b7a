/- Contracts of what the laws call for planes; a plane among a law's arguments, opened. -/
import Derived.Test.YtdjnleomfmfdkabLawA
import Derived.Test.YtdjnleomfmfdkabOpen
import Derived.Test.YtdjnleomfmfdkabPtF
namespace Go.Proofs.Ytdjnleomfmfdkab
open Go.ChangeShapes Go.WideShapes Go.ChangeAt Go.RowKit Go.Flo
set_option linter.unusedSimpArgs false
set_option linter.unusedVariables false


--## toPlane
set_option maxHeartbeats 800000 in
theorem toPlane_any (x0 x1 x2 x3 : Nat) (w : World) :
    Calls Try.prog 29 #[.agg #[.float .f32 x0, .float .f32 x1, .float .f32 x2, .float .f32 x3]] w fun e w' => e = .returned (.agg #[.float .f32 x0, .float .f32 x1, .float .f32 x2, .float .f32 x3]) ∧ Below w.heap.size w w' := by
  go_enter Try.func29, Try.ntmps29
  go_wp2_with (first | (go_at_call 16; refine (toPoint_any _ _ _ _).mono ?_; rintro e w' ⟨rfl, hb⟩; obtain ⟨hc1, hf1⟩ := bcell hb; (try simp only [World.drew_is_drewN, World.heap_drewN, World.cell?_drewN, World.frozen?_drewN] at hc1 hf1); have hs := hb.size; (try simp at hs); have hz1a : w.heap.size < w'.heap.size := (by omega); have hz1b : w.heap.size + 1 < w'.heap.size := (by omega); have hz1_2 : w.heap.size + 2 < w'.heap.size := (by omega); have HB1 := Lib.hid hb; clear hb hs))
  simp [bodyPost, results, Try.results29, go_sem, *]
  exact by ((try simp only [Hid] at *); repeat' (first | (with_reducible exact Below.refl _ _) | (with_reducible assumption) | (with_reducible refine below_drewN ?_ _) | (with_reducible refine Below.drew ?_) | (with_reducible refine below_alloc ?_) | (with_reducible refine below_set ?_ ?_) | (refine below_step (by with_reducible assumption) ?_) | (simp; done) | (simp; omega) | omega))
--## eqPlane
theorem finV_cv {b : Nat} (h : finV (kcv .f32 b) = true) : kcv .f32 b = some b := some_of (Nat.le_of_lt (fin_iff.1 h))
set_option maxHeartbeats 1600000 in
theorem eqPlane_num (x0 x1 x2 x3 y0 y1 y2 y3 : Nat) (h : cpl x0 x1 x2 x3 = cpl y0 y1 y2 y3) (hf : finP (cp x0 x1 x2) = true) (hd : finV (kcv .f32 x3) = true) (w : World) :
    Calls Try.prog 35 #[.agg #[.float .f32 x0, .float .f32 x1, .float .f32 x2, .float .f32 x3], .agg #[.float .f32 y0, .float .f32 y1, .float .f32 y2, .float .f32 y3]] w (Gives (isB true) w) := by
  have h1 : cp x0 x1 x2 = cp y0 y1 y2 := congrArg (·.1) h
  have h2 : kcv .f32 x3 = kcv .f32 y3 := congrArg (·.2) h
  have h3 : kcv .f32 y3 = some x3 := by rw [← h2]; exact finV_cv hd
  have h4 : kcv .f32 y3 = some y3 := by rw [h3]; exact (cv_eq_some (f := FloatKind.f32.format) h3).1 ▸ rfl
  obtain rfl : x3 = y3 := by rw [h3] at h4; exact Option.some.inj h4
  obtain ⟨r, hr⟩ := widen_num (P := Try.prog) 22 31 (by kernel_rfl) (by kernel_rfl) hd
  have H1 := Lib.hid h1; have HF := Lib.hid hf
  clear h h1 h2 h3 h4 hf hd
  go_enter Try.func35, Try.ntmps35
  go_wp2_with (first | (go_at_call 18; refine (eqPoint_num _ _ _ _ _ _ H1.out HF.out _).mono ?_; rintro e w' ⟨_, rfl, rfl, hb⟩; obtain ⟨hc1, hf1⟩ := bcell hb; (try simp only [World.drew_is_drewN, World.heap_drewN, World.cell?_drewN, World.frozen?_drewN] at hc1 hf1); have hs := hb.size; (try simp at hs); have hz1a : w.heap.size < w'.heap.size := (by omega); have hz1b : w.heap.size + 1 < w'.heap.size := (by omega); have HB1 := Lib.hid hb; clear hb hs) | (go_at_call 21; refine (sameFloat_any _ _ rfl _).mono ?_; rintro e w' ⟨rfl, m, rfl⟩))
  simp [bodyPost, results, Try.results35, go_sem, *]
  exact ⟨_, rfl, rfl, by ((try simp only [Hid] at *); repeat' (first | (with_reducible exact Below.refl _ _) | (with_reducible assumption) | (with_reducible refine below_drewN ?_ _) | (with_reducible refine Below.drew ?_) | (with_reducible refine below_alloc ?_) | (with_reducible refine below_set ?_ ?_) | (refine below_step (by with_reducible assumption) ?_) | (simp; done) | (simp; omega) | omega))⟩
--## open_pl
section
variable {H : Type} {enc : TypeId × Value → H} {w : World} {base : Nat} {spare : Nat → Bool} {held : Bool}
theorem open_pl {r : Reach} {b0 : Nat} {v : Value} {d : DataW H} {ps : List MemPlace} (hval : Value.okWide Try.prog w r b0 39 v) (hd : DataW.Trod enc Try.prog w base spare held 39 v d ps) :
    ∃ x0 x1 x2 x3, v = .agg #[.float .f32 x0, .float .f32 x1, .float .f32 x2, .float .f32 x3] ∧ (Lit.float .f32 x0).wf = true ∧ (Lit.float .f32 x1).wf = true ∧ (Lit.float .f32 x2).wf = true ∧ (Lit.float .f32 x3).wf = true := by
  simp only [Value.okWide, Try.underlying39] at hval
  obtain ⟨cs, rfl, hsz, _⟩ := hval
  obtain ⟨c0, c1, c2, c3, rfl⟩ := Joins.array4 (hsz.trans (by kernel_rfl))
  obtain ⟨fuel, hf⟩ := hd
  obtain ⟨xs, n, _, _, _, hlen, hx⟩ := DataW.trod_struct Try.underlying39 hf
  have g0 := hx 0 _ rfl
  have g1 := hx 1 _ rfl
  have e0 : ∃ y, xs[0]? = some y := ⟨xs[0]'(by rw [hlen]; decide), List.getElem?_eq_getElem _⟩
  have e1 : ∃ y, xs[1]? = some y := ⟨xs[1]'(by rw [hlen]; decide), List.getElem?_eq_getElem _⟩
  obtain ⟨y0, e0⟩ := e0
  obtain ⟨y1, e1⟩ := e1
  rw [e0] at g0; rw [e1] at g1
  have z0 : DataW.trod enc Try.prog w base spare held n 23 [c0, c1, c2] = some y0 := by
    have t3 : Try.prog.cellsOf 23 = 3 := by kernel_rfl
    simpa [Value.cells, t3] using g0
  have z1 : DataW.trod enc Try.prog w base spare held n 22 [c3] = some y1 := by
    have t1 : Try.prog.cellsOf 22 = 1 := by kernel_rfl
    simpa [Value.cells, t1] using g1
  obtain ⟨_, _, _, _, _, h0, h1, h2⟩ := trod_array3 Try.underlying23 (by kernel_rfl) z0
  obtain ⟨x0, rfl, w0⟩ := cell_float Try.underlying22 h0
  obtain ⟨x1, rfl, w1⟩ := cell_float Try.underlying22 h1
  obtain ⟨x2, rfl, w2⟩ := cell_float Try.underlying22 h2
  obtain ⟨x3, rfl, w3⟩ := cell_float Try.underlying22 z1
  exact ⟨x0, x1, x2, x3, rfl, w0, w1, w2, w3⟩
end
--## end
end Go.Proofs.Ytdjnleomfmfdkab
