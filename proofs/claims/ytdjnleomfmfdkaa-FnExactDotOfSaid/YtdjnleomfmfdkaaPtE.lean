/- Contracts: lengths, distances, units, as the exported functions have them. -/
import Derived.Test.YtdjnleomfmfdkaaMathE
import Derived.Deep.RegionHeld3
namespace Go.Proofs.Ytdjnleomfmfdkaa
open Go.RowKit Go.Flo
set_option linter.unusedSimpArgs false
set_option linter.unusedVariables false


--## LengthOfI
set_option maxHeartbeats 400000 in
theorem LengthOfI (x0 x1 x2 : Nat) (w : World) :
    Calls Try.prog 26 #[.agg #[.float .f32 x0, .float .f32 x1, .float .f32 x2]] w (Gives (isF (lenV (cp x0 x1 x2))) w) := by
  go_enter Try.func26, Try.ntmps26
  go_wp2_with (first | (go_at_call 70; refine (length_any _ _ _ _).mono ?_; rintro e w' ⟨_, rfl, ⟨r, rfl, hp⟩, hb⟩; have HL := Lib.hid hp; clear hp; obtain ⟨hc1, hf1⟩ := bcell hb; (try simp only [World.heap_drewN, World.cell?_drewN, World.frozen?_drewN] at hc1 hf1); have hs := hb.size; (try simp at hs); have hz1a : w.heap.size < w'.heap.size := (by omega); have HB1 := Lib.hid hb; clear hb hs))
  simp [bodyPost, results, Try.results26, go_sem]
  exact ⟨_, rfl, ⟨_, rfl, by exact HL.out⟩, by ((try simp only [Hid] at *); repeat' (first | (with_reducible exact Below.refl _ _) | (with_reducible refine below_drewN ?_ _) | (with_reducible refine Below.drew ?_) | (with_reducible refine below_alloc ?_) | (with_reducible refine below_set ?_ ?_) | (refine below_step (by with_reducible assumption) ?_) | (simp; done) | (simp; omega) | omega))⟩

--## DotOfI
set_option maxHeartbeats 400000 in
theorem DotOfI (x0 x1 x2 y0 y1 y2 : Nat) (w : World) :
    Calls Try.prog 56 #[.agg #[.float .f32 x0, .float .f32 x1, .float .f32 x2], .agg #[.float .f32 y0, .float .f32 y1, .float .f32 y2]] w (Gives (isF (dotP (cp x0 x1 x2) (cp y0 y1 y2))) w) := by
  go_enter Try.func56, Try.ntmps56
  go_wp2_with (first | (go_at_call 71; refine (dot_any _ _ _ _ _ _ _).mono ?_; rintro e w' ⟨_, rfl, ⟨r, rfl, hp⟩, hb⟩; have HL := Lib.hid hp; clear hp; obtain ⟨hc1, hf1⟩ := bcell hb; (try simp only [World.heap_drewN, World.cell?_drewN, World.frozen?_drewN] at hc1 hf1); have hs := hb.size; (try simp at hs); have hz1a : w.heap.size < w'.heap.size := (by omega); have hz1b : w.heap.size + 1 < w'.heap.size := (by omega); have HB1 := Lib.hid hb; clear hb hs))
  simp [bodyPost, results, Try.results56, go_sem]
  exact ⟨_, rfl, ⟨_, rfl, by exact HL.out⟩, by ((try simp only [Hid] at *); repeat' (first | (with_reducible exact Below.refl _ _) | (with_reducible refine below_drewN ?_ _) | (with_reducible refine Below.drew ?_) | (with_reducible refine below_alloc ?_) | (with_reducible refine below_set ?_ ?_) | (refine below_step (by with_reducible assumption) ?_) | (simp; done) | (simp; omega) | omega))⟩

--## ScalePointI
set_option maxHeartbeats 400000 in
theorem ScalePointI (x0 x1 x2 y : Nat) (w : World) :
    Calls Try.prog 54 #[.agg #[.float .f32 x0, .float .f32 x1, .float .f32 x2], .float .f32 y] w (Gives (isP (scaleP (cp x0 x1 x2) (kcv .f32 y))) w) := by
  go_enter Try.func54, Try.ntmps54
  go_wp2_with (first | (go_at_call 74; refine (times_any _ _ _ _ _).mono ?_; rintro e w' ⟨_, rfl, hv, hb⟩; obtain ⟨p0, p1, p2, rfl, hp⟩ := hv.out; clear hv; have HP := Lib.hid hp; clear hp; obtain ⟨hc1, hf1⟩ := bcell hb; (try simp only [World.heap_drewN, World.cell?_drewN, World.frozen?_drewN] at hc1 hf1); have hs := hb.size; (try simp at hs); have hz1a : w.heap.size < w'.heap.size := (by omega); have hz1b : w.heap.size + 1 < w'.heap.size := (by omega); have HB1 := Lib.hid hb; clear hb hs))
  first
    | simp [bodyPost, results, Try.results54, go_sem, hc1, hf1, hz1a, hz1b]
    | simp [bodyPost, results, Try.results54, go_sem]
  exact ⟨_, rfl, isP_mk HP.out, by ((try simp only [Hid] at *); repeat' (first | (with_reducible exact Below.refl _ _) | (with_reducible refine below_drewN ?_ _) | (with_reducible refine Below.drew ?_) | (with_reducible refine below_alloc ?_) | (with_reducible refine below_set ?_ ?_) | (refine below_step (by with_reducible assumption) ?_) | (simp; done) | (simp; omega) | omega))⟩

--## DistanceBetweenI
set_option maxHeartbeats 400000 in
theorem DistanceBetweenI (x0 x1 x2 y0 y1 y2 : Nat) (w : World) :
    Calls Try.prog 30 #[.agg #[.float .f32 x0, .float .f32 x1, .float .f32 x2], .agg #[.float .f32 y0, .float .f32 y1, .float .f32 y2]] w (Gives (isF (lenV (subP (cp x0 x1 x2) (cp y0 y1 y2)))) w) := by
  go_enter Try.func30, Try.ntmps30
  go_wp2_with (first | (go_at_call 61; refine (less_any _ _ _ _ _ _ _).mono ?_; rintro e w' ⟨_, rfl, hv, hb⟩; obtain ⟨p0, p1, p2, rfl, hp⟩ := hv.out; clear hv; have HP := Lib.hid hp; clear hp; obtain ⟨hc1, hf1⟩ := bcell hb; (try simp only [World.heap_drewN, World.cell?_drewN, World.frozen?_drewN] at hc1 hf1); have hs := hb.size; (try simp at hs); have hz1a : w.heap.size < w'.heap.size := (by omega); have hz1b : w.heap.size + 1 < w'.heap.size := (by omega); have HB1 := Lib.hid hb; clear hb hs) | (go_at_call 70; refine (length_any _ _ _ _).mono ?_; rintro e w' ⟨_, rfl, ⟨r, rfl, hp⟩, hb⟩; have HL := Lib.hid hp; clear hp; obtain ⟨hc2, hf2⟩ := bcell hb; (try simp only [World.heap_drewN, World.cell?_drewN, World.frozen?_drewN] at hc2 hf2); have hs := hb.size; (try simp at hs); have hz2a : w.heap.size < w'.heap.size := (by omega); have hz2b : w.heap.size + 1 < w'.heap.size := (by omega); have HB2 := Lib.hid hb; clear hb hs))
  simp [bodyPost, results, Try.results30, go_sem]
  exact ⟨_, rfl, ⟨_, rfl, by (rw [HL.out, HP.out])⟩, by ((try simp only [Hid] at *); repeat' (first | (with_reducible exact Below.refl _ _) | (with_reducible refine below_drewN ?_ _) | (with_reducible refine Below.drew ?_) | (with_reducible refine below_alloc ?_) | (with_reducible refine below_set ?_ ?_) | (refine below_step (by with_reducible assumption) ?_) | (simp; done) | (simp; omega) | omega))⟩

--## end
end Go.Proofs.Ytdjnleomfmfdkaa
