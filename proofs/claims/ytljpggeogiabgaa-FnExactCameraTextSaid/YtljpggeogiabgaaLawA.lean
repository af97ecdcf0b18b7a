/- Contracts of what the laws themselves call: copies of the arguments, and the test of two answers. -/
import Derived.Test.YtljpggeogiabgaaMathA
import Derived.Deep.QuietTactic
import Derived.BigQuiet
import Derived.Deep.RegionWith
import Derived.Deep.RegionHeld3
import Derived.Handy
namespace Go.Proofs.Ytljpggeogiabgaa
open Go.RowKit Go.Flo
set_option linter.unusedSimpArgs false
set_option linter.unusedVariables false

/-- how a narrow number is made wide in a run: whatever the world -/
theorem widen_run {P : Program} (src dst : TypeId) (b : Nat) (hs : (P.underlying src).isSome = true) (hd : P.underlying dst = some (.float .f64)) :
    ∃ (f : World → Nat) (n : Nat), (∀ w, (convert src dst (.float .f32 b)).run P w = .ok (.float .f64 (f w)) (w.drewN n)) ∧ ∀ w, kcv .f64 (f w) = wide (kcv .f32 b) := by
  rcases cv_cases FloatKind.f32.format b with ⟨h1, g1⟩ | ⟨h1, g1⟩
  · refine ⟨fun w => nanOf .f64 (w.tape w.drawn (.nanConv .f64 b)), 1, fun w => ?_, fun w => ?_⟩
    · obtain ⟨u, hs'⟩ := Option.isSome_iff_exists.1 hs
      have e := read_nan (good .f32) g1
      have e' : FloatKind.f32.decode b = _ := e
      cases u <;> simp [convert, run_underlying hs', run_underlying hd, Conv.floatToFloat, e', choose, Sem.run, Question.forced, Question.cut, World.drewN, nanOf]
    · rw [nanOf_cv]; unfold kcv; rw [h1]; rfl
  · cases h2 : floatToFloatBits .f32 b .f64 with
    | some r =>
      refine ⟨fun _ => r, 0, fun w => run_convert_float_float w src dst .f32 .f64 b r hs hd h2, fun w => ?_⟩
      rw [f2f_cv (by decide) h2]; unfold kcv; rw [h1]
      exact h2.symm
    | none =>
      exfalso
      obtain ⟨r, n, hrun, hr, _⟩ := run_widen (P := P) src dst b default hs hd
      have h3 : kcv .f32 b = some b := h1
      rw [h3] at hr
      have h4 : wide (some b) = none := h2
      rw [h4] at hr
      rcases Nat.lt_or_ge (rung Ieee.single b) Ieee.single.infRung with g | g
      · obtain ⟨m, p, e, hp, hv⟩ := read_number Ieee.single g
        have e' : FloatKind.f32.decode b = _ := e
        have hf : rungOf Ieee.double m p < Ieee.double.infRung := wide_fits rfl hp (Nat.lt_of_le_of_lt (Nat.le_of_eq hv) (val_single_lt rfl g))
        have hi : (FloatKind.f64.decode (FloatKind.f64.encode (.number (neg Ieee.single b) m p))).isInfinity = false := isInfinity_write hf
        simp [floatToFloatBits, e', hi] at h2
      · have g3 : rung Ieee.single b = Ieee.single.infRung := Nat.le_antisymm g1 g
        have e := read_inf good_single g3
        have e' : FloatKind.f32.decode b = _ := e
        simp [floatToFloatBits, e'] at h2

theorem end_gt {r1 r2 c : Nat} {v : V} {w w' : World} {n : Nat} (h1 : Hid (kcv .f64 r1 = v)) (h2 : Hid (kcv .f64 r2 = v)) (hw : w' = w.drewN n) :
    Ending.returned (Value.bool ((FloatKind.f64.format.order r1 c == some Ordering.gt) == (FloatKind.f64.format.order r2 c == some Ordering.gt))) = .returned (.bool true) ∧ ∃ m, w' = w.drewN m := by
  refine ⟨?_, n, hw⟩
  rw [← ord64, ← ord64, h1.out, h2.out]
  simp

--## toPoint
set_option maxHeartbeats 400000 in
theorem toPoint_any (x0 x1 x2 : Nat) (w : World) :
    Calls Try.prog 19 #[.agg #[.float .f32 x0, .float .f32 x1, .float .f32 x2]] w
      fun e w' => e = .returned (.agg #[.float .f32 x0, .float .f32 x1, .float .f32 x2]) ∧ Below w.heap.size w w' := by
  go_enter Try.func19, Try.ntmps19
  go_wp2
  go_rounds 4
  exact bodyPost_ret (v := .agg #[.float .f32 x0, .float .f32 x1, .float .f32 x2]) (by simp [results, Try.results19, go_sem]) rfl ⟨rfl, by go_grown⟩
--## end
end Go.Proofs.Ytljpggeogiabgaa
