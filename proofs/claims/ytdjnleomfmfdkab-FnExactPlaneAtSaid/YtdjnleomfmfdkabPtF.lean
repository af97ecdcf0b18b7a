/- Contracts: planes. -/
import Derived.Test.YtdjnleomfmfdkabPtE
import Derived.Deep.RegionHeld3
namespace Go.Proofs.Ytdjnleomfmfdkab
open Go.RowKit Go.Flo
set_option linter.unusedSimpArgs false
set_option linter.unusedVariables false

abbrev VPl := V3 × V
def cpl (x0 x1 x2 x3 : Nat) : VPl := (cp x0 x1 x2, kcv .f32 x3)
def validPl (x : VPl) : Bool := plainP x.1 && plainV x.2 && ge (lenV x.1) (c32 1065336439) && le (lenV x.1) (c32 1065361605)
def isPlI (x : VPl × Int) (v : Value) : Prop := ∃ r0 r1 r2 r3, v = .tuple #[.agg #[.float .f32 r0, .float .f32 r1, .float .f32 r2, .float .f32 r3], .int .i64 x.2] ∧ cpl r0 r1 r2 r3 = x.1
def isFI (x : V × Int) (v : Value) : Prop := ∃ r, v = .tuple #[.float .f32 r, .int .i64 x.2] ∧ kcv .f32 r = x.1
def zeroPl : VPl := (zeroP, c32 0)
theorem zero_cpl : cpl 0 0 0 0 = zeroPl := rfl
theorem ways3 (a b c : Bool) : a = false ∨ (a = true ∧ b = false) ∨ (a = true ∧ b = true ∧ c = false) ∨ (a = true ∧ b = true ∧ c = true) := by cases a <;> cases b <;> cases c <;> simp
theorem cellKept {w1 w2 : World} {b off : Nat} {v : Value} (hb : Below w1.heap.size w1 w2) (hl : b < w1.heap.size) (h : w1.cell? ⟨b, off, none⟩ = some v) : w2.cell? ⟨b, off, none⟩ = some v :=
  (hb.cell (p := ⟨b, off, none⟩) hl).trans h

--## l01Plane
set_option maxHeartbeats 1600000 in
theorem l01Plane_any (x0 x1 x2 x3 : Nat) (b : Nat) (w : World) (hlt : b < w.heap.size) (g0 : w.cell? ⟨b, 0, none⟩ = some (.float .f32 x0)) (g1 : w.cell? ⟨b, 1, none⟩ = some (.float .f32 x1)) (g2 : w.cell? ⟨b, 2, none⟩ = some (.float .f32 x2)) (g3 : w.cell? ⟨b, 3, none⟩ = some (.float .f32 x3)) :
    Calls Try.prog 56 #[.pointer (some ⟨b, 0, none⟩)] w (Gives (isB (validPl (cpl x0 x1 x2 x3))) w) := by
  rcases ways3 (plainP (cp x0 x1 x2)) (plainV (kcv .f32 x3)) (ge (lenV (cp x0 x1 x2)) (c32 1065336439)) with h0 | ⟨h0, h1⟩ | ⟨h0, h1, h2⟩ | ⟨h0, h1, h2⟩
  all_goals
  go_enter Try.func56, Try.ntmps56
  go_wp2_with (first | (go_at_call 19; refine (LengthOfS _ _ _ _).mono ?_; rintro e w' ⟨_, rfl, ⟨r, rfl, hr⟩, hb⟩; have HL := Lib.hid hr; clear hr; obtain ⟨hc1, hf1⟩ := bcell hb; (try simp only [World.drew_is_drewN, World.heap_drewN, World.cell?_drewN, World.frozen?_drewN] at hc1 hf1); have hs := hb.size; (try simp at hs); have hb1 : b < w'.heap.size := (by omega); have HB1 := Lib.hid hb; clear hb hs; try have ht := ge_at HL h2) | (go_at_call 48; refine (l01Point_any _ _ _ _).mono ?_; rintro e w' ⟨_, rfl, rfl, hb⟩; obtain ⟨hc2, hf2⟩ := bcell hb; (try simp only [World.drew_is_drewN, World.heap_drewN, World.cell?_drewN, World.frozen?_drewN] at hc2 hf2); have hs := hb.size; (try simp at hs); have hb2 : b < w'.heap.size := (by omega); have HB2 := Lib.hid hb; clear hb hs; rw [h0]) | (go_at_call 74; refine (l01Plain_any _ _).mono ?_; rintro e w' ⟨_, rfl, rfl, rfl⟩; rw [h1]))
  all_goals
    first
      | simp [bodyPost, results, Try.results56, go_sem]
    refine ⟨_, rfl, ?_, by ((try simp only [Hid] at *); repeat' (first | (with_reducible exact Below.refl _ _) | (with_reducible assumption) | (with_reducible refine below_drewN ?_ _) | (with_reducible refine Below.drew ?_) | (with_reducible refine below_alloc ?_) | (with_reducible refine below_set ?_ ?_) | (refine below_step (by with_reducible assumption) ?_) | (simp; done) | (simp; omega) | omega))⟩
    unfold isB validPl cpl
    first
    | (simp only [h0, h1, h2, Bool.true_and]; exact congrArg Value.bool (le_at HL rfl))
    | (simp [h0]; done)
    | (simp [h1]; done)
    | (simp [h2]; done)

--## ValidPlaneS
set_option maxHeartbeats 400000 in
theorem ValidPlaneS (x0 x1 x2 x3 : Nat) (w : World) :
    Calls Try.prog 28 #[.agg #[.float .f32 x0, .float .f32 x1, .float .f32 x2, .float .f32 x3]] w (Gives (isB (validPl (cpl x0 x1 x2 x3))) w) := by
  go_enter Try.func28, Try.ntmps28
  go_wp2_with (first | (go_at_call 56; refine (l01Plane_any x0 x1 x2 x3 _ _ (by simp) (by simp) (by simp) (by simp) (by simp)).mono ?_; rintro e w' ⟨_, rfl, rfl, hb⟩; have HB := Lib.hid hb; clear hb))
  simp [bodyPost, results, Try.results28, go_sem]
  exact ⟨_, rfl, rfl, by ((try simp only [Hid] at *); repeat' (first | (with_reducible exact Below.refl _ _) | (with_reducible assumption) | (with_reducible refine below_drewN ?_ _) | (with_reducible refine Below.drew ?_) | (with_reducible refine below_alloc ?_) | (with_reducible refine below_set ?_ ?_) | (refine below_step (by with_reducible assumption) ?_) | (simp; done) | (simp; omega) | omega))⟩

--## ValidPlaneI
set_option maxHeartbeats 1600000 in
theorem ValidPlaneI (x0 x1 x2 x3 : Nat) (w : World) :
    Calls Try.prog 30 #[.agg #[.float .f32 x0, .float .f32 x1, .float .f32 x2, .float .f32 x3]] w (Gives (isB (validPl (cpl x0 x1 x2 x3))) w) := by
  rcases ways3 (plainV (kcv .f32 x3)) (plainP (cp x0 x1 x2)) (ge (lenV (cp x0 x1 x2)) (c32 1065336439)) with h1 | ⟨h1, h0⟩ | ⟨h1, h0, h2⟩ | ⟨h1, h0, h2⟩
  all_goals
  go_enter Try.func30, Try.ntmps30
  go_wp2_with (first | (go_at_call 47; refine (length_any _ _ _ _).mono ?_; rintro e w' ⟨_, rfl, ⟨r, rfl, hr⟩, hb⟩; have HL := Lib.hid hr; clear hr; obtain ⟨hc1, hf1⟩ := bcell hb; (try simp only [World.drew_is_drewN, World.heap_drewN, World.cell?_drewN, World.frozen?_drewN] at hc1 hf1); have hs := hb.size; (try simp at hs); have hz1a : w.heap.size < w'.heap.size := (by omega); have HB1 := Lib.hid hb; clear hb hs; try have ht := ge_at HL h2) | (go_at_call 50; refine (ValidPointI _ _ _ _).mono ?_; rintro e w' ⟨_, rfl, rfl, hb⟩; obtain ⟨hc2, hf2⟩ := bcell hb; (try simp only [World.drew_is_drewN, World.heap_drewN, World.cell?_drewN, World.frozen?_drewN] at hc2 hf2); have hs := hb.size; (try simp at hs); have hz2a : w.heap.size < w'.heap.size := (by omega); have HB2 := Lib.hid hb; clear hb hs; rw [h0]) | (go_at_call 57; refine (IsPlainI _ _).mono ?_; rintro e w' ⟨_, rfl, rfl, rfl⟩; rw [h1]))
  all_goals
    first
      | simp [bodyPost, results, Try.results30, go_sem]
    refine ⟨_, rfl, ?_, by ((try simp only [Hid] at *); repeat' (first | (with_reducible exact Below.refl _ _) | (with_reducible assumption) | (with_reducible refine below_drewN ?_ _) | (with_reducible refine Below.drew ?_) | (with_reducible refine below_alloc ?_) | (with_reducible refine below_set ?_ ?_) | (refine below_step (by with_reducible assumption) ?_) | (simp; done) | (simp; omega) | omega))⟩
    unfold isB validPl cpl
    first
    | (simp only [h0, h1, h2, Bool.true_and]; exact congrArg Value.bool (le_at HL rfl))
    | (simp [h0]; done)
    | (simp [h1]; done)
    | (simp [h2]; done)


--## end
end Go.Proofs.Ytdjnleomfmfdkab
