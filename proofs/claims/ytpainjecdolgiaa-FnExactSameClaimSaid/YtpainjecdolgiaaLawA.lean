/- Contracts of what the laws themselves call: copies of the arguments, and the test of two answers. -/
import Derived.Test.YtpainjecdolgiaaMathA
import Derived.Deep.QuietTactic
import Derived.BigQuiet
import Derived.Deep.RegionWith
import Derived.Deep.RegionHeld3
import Derived.Handy
namespace Go.Proofs.Ytpainjecdolgiaa
open Go.RowKit Go.Flo
set_option linter.unusedSimpArgs false
set_option linter.unusedVariables false

/-- how a narrow number is made wide in a run: whatever the world -/
theorem widen_run {P : Program} (src dst : TypeId) (b : Nat) (hs : (P.underlying src).isSome = true) (hd : P.underlying dst = some (.float .f64)) :
    ∃ (f : World → Nat) (n : Nat), (∀ w, (convert src dst (.float .f32 b)).run P w = .ok (.float .f64 (f w)) (w.drewN n)) ∧ ∀ w, kcv .f64 (f w) = wide (kcv .f32 b) := by
  rcases cv_cases FloatKind.f32.format b with ⟨h1, g1⟩ | ⟨h1, g1⟩
  · refine ⟨fun w => nanOf .f64 (w.tape w.drawn (.nanConv .f64 b)), 1, fun w => ?_, fun w => ?_⟩
    · obtain ⟨u, hs'⟩ := Option.isSome_iff_exists.1 hs
      have e := read_nan (good .f32) g1
      have e' : FloatKind.f32.decode b = _ := e
      cases u <;> simp [convert, run_underlying hs', run_underlying hd, Conv.floatToFloat, e', choose, Sem.run, Question.forced, Question.cut, World.drewN, nanOf]
    · rw [nanOf_cv]; unfold kcv; rw [h1]; rfl
  · cases h2 : floatToFloatBits .f32 b .f64 with
    | some r =>
      refine ⟨fun _ => r, 0, fun w => run_convert_float_float w src dst .f32 .f64 b r hs hd h2, fun w => ?_⟩
      rw [f2f_cv (by decide) h2]; unfold kcv; rw [h1]
      exact h2.symm
    | none =>
      exfalso
      obtain ⟨r, n, hrun, hr, _⟩ := run_widen (P := P) src dst b default hs hd
      have h3 : kcv .f32 b = some b := h1
      rw [h3] at hr
      have h4 : wide (some b) = none := h2
      rw [h4] at hr
      rcases Nat.lt_or_ge (rung Ieee.single b) Ieee.single.infRung with g | g
      · obtain ⟨m, p, e, hp, hv⟩ := read_number Ieee.single g
        have e' : FloatKind.f32.decode b = _ := e
        have hf : rungOf Ieee.double m p < Ieee.double.infRung := wide_fits rfl hp (Nat.lt_of_le_of_lt (Nat.le_of_eq hv) (val_single_lt rfl g))
        have hi : (FloatKind.f64.decode (FloatKind.f64.encode (.number (neg Ieee.single b) m p))).isInfinity = false := isInfinity_write hf
        simp [floatToFloatBits, e', hi] at h2
      · have g3 : rung Ieee.single b = Ieee.single.infRung := Nat.le_antisymm g1 g
        have e := read_inf good_single g3
        have e' : FloatKind.f32.decode b = _ := e
        simp [floatToFloatBits, e'] at h2

theorem end_gt {r1 r2 c : Nat} {v : V} {w w' : World} {n : Nat} (h1 : Hid (kcv .f64 r1 = v)) (h2 : Hid (kcv .f64 r2 = v)) (hw : w' = w.drewN n) :
    Ending.returned (Value.bool ((FloatKind.f64.format.order r1 c == some Ordering.gt) == (FloatKind.f64.format.order r2 c == some Ordering.gt))) = .returned (.bool true) ∧ ∃ m, w' = w.drewN m := by
  refine ⟨?_, n, hw⟩
  rw [← ord64, ← ord64, h1.out, h2.out]
  simp

--## toPoint
set_option maxHeartbeats 400000 in
theorem toPoint_any (x0 x1 x2 : Nat) (w : World) :
    Calls Try.prog 17 #[.agg #[.float .f32 x0, .float .f32 x1, .float .f32 x2]] w
      fun e w' => e = .returned (.agg #[.float .f32 x0, .float .f32 x1, .float .f32 x2]) ∧ Below w.heap.size w w' := by
  go_enter Try.func17, Try.ntmps17
  go_wp2
  go_rounds 4
  exact bodyPost_ret (v := .agg #[.float .f32 x0, .float .f32 x1, .float .f32 x2]) (by simp [results, Try.results17, go_sem]) rfl ⟨rfl, by go_grown⟩
--## sameFloat
set_option maxHeartbeats 400000 in
theorem sameFloat_any (x y : Nat) (h : kcv .f64 x = kcv .f64 y) (w : World) :
    Calls Try.prog 23 #[.float .f64 x, .float .f64 y] w
      fun e w' => e = .returned (.bool true) ∧ ∃ m, w' = w.drewN m := by
  rcases cv_cases FloatKind.f64.format x with ⟨h1, g1⟩ | ⟨h1, g1⟩
  · have g2 := cv_eq_none (h.symm.trans h1)
    have e1 : FloatKind.f64.format.order x x = none := order_nan_left (good .f64) g1
    have e2 : FloatKind.f64.format.order y y = none := order_nan_left (good .f64) g2
    clear h h1 g1 g2
    go_enter Try.func23, Try.ntmps23
    go_wp2
    go_ret
    exact ⟨rfl, 0, rfl⟩
  · obtain ⟨rfl, _⟩ := cv_eq_some (h.symm.trans h1)
    have e1 : FloatKind.f64.format.order x x = some .eq := order_refl (good .f64) g1
    clear h h1 g1
    cases e2 : FloatKind.f64.format.order x 0 == some .eq
    · go_enter Try.func23, Try.ntmps23
      go_wp2
      go_ret
      exact ⟨rfl, 0, rfl⟩
    · have tok_r : True := trivial
      go_enter Try.func23, Try.ntmps23
      go_wp2_with (first | (clear tok_r; refine wpList_arith rfl _ _ _ _ _ rfl (by decide) _ _ _ rfl rfl ?_; intro r1 n1 h1) | (refine wpList_arith rfl _ _ _ _ _ rfl (by decide) _ _ _ rfl rfl ?_; intro r2 n2 h2))
      go_ret
      exact end_gt h1 h2 rfl
theorem sameFloat_gives (x y : Nat) (h : kcv .f64 x = kcv .f64 y) (w : World) :
    Calls Try.prog 23 #[.float .f64 x, .float .f64 y] w (Drew' (isB true) w) := (sameFloat_any x y h w).mono fun e w' ⟨he, m, hm⟩ => ⟨_, m, he, rfl, hm.symm⟩
--## eqPoint
theorem widen_num {P : Program} (src dst : TypeId) {b : Nat} (hs : (P.underlying src).isSome = true) (hd : P.underlying dst = some (.float .f64)) (hb : finV (kcv .f32 b) = true) :
    ∃ r, ∀ w, (convert src dst (.float .f32 b)).run P w = .ok (.float .f64 r) w := by
  have g := fin_iff.1 hb
  obtain ⟨m, p, e, hp, hv⟩ := read_number Ieee.single g
  have e' : FloatKind.f32.decode b = _ := e
  have hf : rungOf Ieee.double m p < Ieee.double.infRung := wide_fits rfl hp (Nat.lt_of_le_of_lt (Nat.le_of_eq hv) (val_single_lt rfl g))
  have hi : (FloatKind.f64.decode (FloatKind.f64.encode (.number (neg Ieee.single b) m p))).isInfinity = false := isInfinity_write hf
  exact ⟨FloatKind.f64.encode (.number (neg Ieee.single b) m p), fun w => run_convert_float_float w src dst .f32 .f64 b _ hs hd (by simp [floatToFloatBits, e', hi])⟩
theorem num_eq {x y : Nat} (h : kcv .f32 x = kcv .f32 y) (hx : finV (kcv .f32 x) = true) : x = y := by
  have g := fin_iff.1 hx
  have h1 : kcv .f32 x = some x := some_of (Nat.le_of_lt g)
  rw [h1] at h
  exact (cv_eq_some h.symm).1
set_option maxHeartbeats 1600000 in
theorem eqPoint_num (x0 x1 x2 y0 y1 y2 : Nat) (h : cp x0 x1 x2 = cp y0 y1 y2) (hf : finP (cp x0 x1 x2) = true) (w : World) :
    Calls Try.prog 22 #[.agg #[.float .f32 x0, .float .f32 x1, .float .f32 x2], .agg #[.float .f32 y0, .float .f32 y1, .float .f32 y2]] w (Gives (isB true) w) := by
  unfold finP at hf
  simp only [Bool.and_eq_true] at hf
  obtain ⟨⟨h0, h1⟩, h2⟩ := hf
  obtain rfl : x0 = y0 := num_eq (congrArg (·.1) h) h0
  obtain rfl : x1 = y1 := num_eq (congrArg (·.2.1) h) h1
  obtain rfl : x2 = y2 := num_eq (congrArg (·.2.2) h) h2
  obtain ⟨f0, r0⟩ := widen_num (P := Try.prog) 23 59 (by kernel_rfl) (by kernel_rfl) h0
  obtain ⟨f1, r1⟩ := widen_num (P := Try.prog) 23 59 (by kernel_rfl) (by kernel_rfl) h1
  obtain ⟨f2, r2⟩ := widen_num (P := Try.prog) 23 59 (by kernel_rfl) (by kernel_rfl) h2
  clear h h0 h1 h2
  go_enter Try.func22, Try.ntmps22
  go_wp2
  refine wp_loop_rounds 4 ?_
  rw [rounds_succ]; go_wp2
  go_region_held3 (fun W => W.cell? ⟨w.heap.size, 0, none⟩ = some (.float .f32 x0) ∧ W.cell? ⟨w.heap.size + 1, 0, none⟩ = some (.float .f32 x0)) (first | go_keep) (first | (go_at_call 23; refine (sameFloat_any _ _ rfl _).mono ?_; rintro e w' ⟨rfl, m, rfl⟩))
  go_wp2
  rw [rounds_succ]; go_wp2
  go_region_held3 (fun W => W.cell? ⟨w.heap.size, 1, none⟩ = some (.float .f32 x1) ∧ W.cell? ⟨w.heap.size + 1, 1, none⟩ = some (.float .f32 x1)) (first | go_keep) (first | (go_at_call 23; refine (sameFloat_any _ _ rfl _).mono ?_; rintro e w' ⟨rfl, m, rfl⟩))
  go_wp2
  rw [rounds_succ]; go_wp2
  go_region_held3 (fun W => W.cell? ⟨w.heap.size, 2, none⟩ = some (.float .f32 x2) ∧ W.cell? ⟨w.heap.size + 1, 2, none⟩ = some (.float .f32 x2)) (first | go_keep) (first | (go_at_call 23; refine (sameFloat_any _ _ rfl _).mono ?_; rintro e w' ⟨rfl, m, rfl⟩))
  go_wp2
  rw [rounds_succ]; go_wp2
  simp [bodyPost, results, Try.results22, go_sem]
  exact ⟨_, rfl, rfl, by ((try simp only [Hid] at *); repeat' (first | (with_reducible exact Below.refl _ _) | (with_reducible refine below_drewN ?_ _) | (with_reducible refine Below.drew ?_) | (with_reducible refine below_alloc ?_) | (with_reducible refine below_set ?_ ?_) | (refine below_step (by with_reducible assumption) ?_) | (simp; done) | (simp; omega) | omega))⟩
--## end
end Go.Proofs.Ytpainjecdolgiaa
