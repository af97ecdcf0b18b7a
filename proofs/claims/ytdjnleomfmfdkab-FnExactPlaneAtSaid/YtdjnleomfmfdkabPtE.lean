/- Contracts: lengths, distances, units, as the exported functions have them. -/
import Derived.Test.YtdjnleomfmfdkabMathE
import Derived.Deep.RegionHeld3
namespace Go.Proofs.Ytdjnleomfmfdkab
open Go.RowKit Go.Flo
set_option linter.unusedSimpArgs false
set_option linter.unusedVariables false


--## LengthOfI
set_option maxHeartbeats 400000 in
theorem LengthOfI (x0 x1 x2 : Nat) (w : World) :
    Calls Try.prog 20 #[.agg #[.float .f32 x0, .float .f32 x1, .float .f32 x2]] w (Gives (isF (lenV (cp x0 x1 x2))) w) := by
  go_enter Try.func20, Try.ntmps20
  go_wp2_with (first | (go_at_call 47; refine (length_any _ _ _ _).mono ?_; rintro e w' ⟨_, rfl, ⟨r, rfl, hp⟩, hb⟩; have HL := Lib.hid hp; clear hp; obtain ⟨hc1, hf1⟩ := bcell hb; (try simp only [World.heap_drewN, World.cell?_drewN, World.frozen?_drewN] at hc1 hf1); have hs := hb.size; (try simp at hs); have hz1a : w.heap.size < w'.heap.size := (by omega); have HB1 := Lib.hid hb; clear hb hs))
  simp [bodyPost, results, Try.results20, go_sem]
  exact ⟨_, rfl, ⟨_, rfl, by exact HL.out⟩, by ((try simp only [Hid] at *); repeat' (first | (with_reducible exact Below.refl _ _) | (with_reducible refine below_drewN ?_ _) | (with_reducible refine Below.drew ?_) | (with_reducible refine below_alloc ?_) | (with_reducible refine below_set ?_ ?_) | (refine below_step (by with_reducible assumption) ?_) | (simp; done) | (simp; omega) | omega))⟩

--## DistanceBetweenI
set_option maxHeartbeats 400000 in
theorem DistanceBetweenI (x0 x1 x2 y0 y1 y2 : Nat) (w : World) :
    Calls Try.prog 25 #[.agg #[.float .f32 x0, .float .f32 x1, .float .f32 x2], .agg #[.float .f32 y0, .float .f32 y1, .float .f32 y2]] w (Gives (isF (lenV (subP (cp x0 x1 x2) (cp y0 y1 y2)))) w) := by
  go_enter Try.func25, Try.ntmps25
  go_wp2_with (first | (go_at_call 53; refine (less_any _ _ _ _ _ _ _).mono ?_; rintro e w' ⟨_, rfl, hv, hb⟩; obtain ⟨p0, p1, p2, rfl, hp⟩ := hv.out; clear hv; have HP := Lib.hid hp; clear hp; obtain ⟨hc1, hf1⟩ := bcell hb; (try simp only [World.heap_drewN, World.cell?_drewN, World.frozen?_drewN] at hc1 hf1); have hs := hb.size; (try simp at hs); have hz1a : w.heap.size < w'.heap.size := (by omega); have hz1b : w.heap.size + 1 < w'.heap.size := (by omega); have HB1 := Lib.hid hb; clear hb hs) | (go_at_call 47; refine (length_any _ _ _ _).mono ?_; rintro e w' ⟨_, rfl, ⟨r, rfl, hp⟩, hb⟩; have HL := Lib.hid hp; clear hp; obtain ⟨hc2, hf2⟩ := bcell hb; (try simp only [World.heap_drewN, World.cell?_drewN, World.frozen?_drewN] at hc2 hf2); have hs := hb.size; (try simp at hs); have hz2a : w.heap.size < w'.heap.size := (by omega); have hz2b : w.heap.size + 1 < w'.heap.size := (by omega); have HB2 := Lib.hid hb; clear hb hs))
  simp [bodyPost, results, Try.results25, go_sem]
  exact ⟨_, rfl, ⟨_, rfl, by (rw [HL.out, HP.out])⟩, by ((try simp only [Hid] at *); repeat' (first | (with_reducible exact Below.refl _ _) | (with_reducible refine below_drewN ?_ _) | (with_reducible refine Below.drew ?_) | (with_reducible refine below_alloc ?_) | (with_reducible refine below_set ?_ ?_) | (refine below_step (by with_reducible assumption) ?_) | (simp; done) | (simp; omega) | omega))⟩

--## DistanceBetweenS
set_option maxHeartbeats 400000 in
theorem DistanceBetweenS (x0 x1 x2 y0 y1 y2 : Nat) (w : World) :
    Calls Try.prog 24 #[.agg #[.float .f32 x0, .float .f32 x1, .float .f32 x2], .agg #[.float .f32 y0, .float .f32 y1, .float .f32 y2]] w (Gives (isF (lenV (subP (cp x0 x1 x2) (cp y0 y1 y2)))) w) := by
  go_enter Try.func24, Try.ntmps24
  go_wp2_with (first | (go_at_call 52; refine (SubPointsS _ _ _ _ _ _ _).mono ?_; rintro e w' ⟨_, rfl, hv, hb⟩; obtain ⟨p0, p1, p2, rfl, hp⟩ := hv.out; clear hv; have HP := Lib.hid hp; clear hp; obtain ⟨hc1, hf1⟩ := bcell hb; (try simp only [World.heap_drewN, World.cell?_drewN, World.frozen?_drewN] at hc1 hf1); have hs := hb.size; (try simp at hs); have hz1a : w.heap.size < w'.heap.size := (by omega); have hz1b : w.heap.size + 1 < w'.heap.size := (by omega); have HB1 := Lib.hid hb; clear hb hs) | (go_at_call 19; refine (LengthOfS _ _ _ _).mono ?_; rintro e w' ⟨_, rfl, ⟨r, rfl, hp⟩, hb⟩; have HL := Lib.hid hp; clear hp; obtain ⟨hc2, hf2⟩ := bcell hb; (try simp only [World.heap_drewN, World.cell?_drewN, World.frozen?_drewN] at hc2 hf2); have hs := hb.size; (try simp at hs); have hz2a : w.heap.size < w'.heap.size := (by omega); have hz2b : w.heap.size + 1 < w'.heap.size := (by omega); have HB2 := Lib.hid hb; clear hb hs))
  simp [bodyPost, results, Try.results24, go_sem]
  exact ⟨_, rfl, ⟨_, rfl, by (rw [HL.out, HP.out])⟩, by ((try simp only [Hid] at *); repeat' (first | (with_reducible exact Below.refl _ _) | (with_reducible refine below_drewN ?_ _) | (with_reducible refine Below.drew ?_) | (with_reducible refine below_alloc ?_) | (with_reducible refine below_set ?_ ?_) | (refine below_step (by with_reducible assumption) ?_) | (simp; done) | (simp; omega) | omega))⟩

--## UnitOfI
set_option maxHeartbeats 800000 in
theorem UnitOfI (x0 x1 x2 : Nat) (w : World) :
    Calls Try.prog 23 #[.agg #[.float .f32 x0, .float .f32 x1, .float .f32 x2]] w (Gives (isPI (unitOfI (cp x0 x1 x2))) w) := by
  cases h0 : plainP (cp x0 x1 x2)
  all_goals
  go_enter Try.func23, Try.ntmps23
  go_wp2_with (first | (go_at_call 50; refine (ValidPointI _ _ _ _).mono ?_; rintro e w' ⟨_, rfl, rfl, hb⟩; obtain ⟨hc1, hf1⟩ := bcell hb; (try simp only [World.heap_drewN, World.cell?_drewN, World.frozen?_drewN] at hc1 hf1); have hs := hb.size; (try simp at hs); have hz1a : w.heap.size < w'.heap.size := (by omega); have hz1b : w.heap.size + 1 < w'.heap.size := (by omega); have HB1 := Lib.hid hb; clear hb hs) | (go_at_call 51; refine (unit_any _ _ _ _).mono ?_; rintro e w' ⟨_, rfl, hv, hb⟩; obtain ⟨q0, q1, q2, rfl, hp⟩ := hv.out; clear hv; have HQ := Lib.hid hp; clear hp; obtain ⟨hc2, hf2⟩ := bcell hb; (try simp only [World.heap_drewN, World.cell?_drewN, World.frozen?_drewN] at hc2 hf2); have hs := hb.size; (try simp at hs); have hz2a : w.heap.size < w'.heap.size := (by omega); have hz2b : w.heap.size + 1 < w'.heap.size := (by omega); have HB2 := Lib.hid hb; clear hb hs))
  all_goals
    first
      | simp [bodyPost, results, Try.results23, go_sem, hc1, hf1, hz1a, hz1b, hc2, hf2, hz2a, hz2b]
      | simp [bodyPost, results, Try.results23, go_sem, hc1, hf1, hz1a, hz1b]
      | simp [bodyPost, results, Try.results23, go_sem]
    first
    | (have hU : unitOfI (cp x0 x1 x2) = (zeroP, 1) := (by simp [unitOfI, h0]); rw [hU]; exact ⟨_, rfl, isPI_mk zero_cp rfl, by ((try simp only [Hid] at *); repeat' (first | (with_reducible exact Below.refl _ _) | (with_reducible refine below_drewN ?_ _) | (with_reducible refine Below.drew ?_) | (with_reducible refine below_alloc ?_) | (with_reducible refine below_set ?_ ?_) | (refine below_step (by with_reducible assumption) ?_) | (simp; done) | (simp; omega) | omega))⟩)
    | (have hU : unitOfI (cp x0 x1 x2) = unitI (cp x0 x1 x2) := (by simp [unitOfI, h0]); rw [hU]; exact ⟨_, rfl, isPI_mk HQ.out rfl, by ((try simp only [Hid] at *); repeat' (first | (with_reducible exact Below.refl _ _) | (with_reducible refine below_drewN ?_ _) | (with_reducible refine Below.drew ?_) | (with_reducible refine below_alloc ?_) | (with_reducible refine below_set ?_ ?_) | (refine below_step (by with_reducible assumption) ?_) | (simp; done) | (simp; omega) | omega))⟩)


--## UnitOfS
set_option maxHeartbeats 800000 in
theorem UnitOfS (x0 x1 x2 : Nat) (w : World) :
    Calls Try.prog 22 #[.agg #[.float .f32 x0, .float .f32 x1, .float .f32 x2]] w (Gives (isPI (unitOfS (cp x0 x1 x2))) w) := by
  cases h0 : plainP (cp x0 x1 x2) <;> cases h1 : (unitS (cp x0 x1 x2)).2
  all_goals
  go_enter Try.func22, Try.ntmps22
  go_wp2_with (first | (go_at_call 48; refine (l01Point_any _ _ _ _).mono ?_; rintro e w' ⟨_, rfl, rfl, hb⟩; obtain ⟨hc1, hf1⟩ := bcell hb; (try simp only [World.heap_drewN, World.cell?_drewN, World.frozen?_drewN] at hc1 hf1); have hs := hb.size; (try simp at hs); have hz1a : w.heap.size < w'.heap.size := (by omega); have hz1b : w.heap.size + 1 < w'.heap.size := (by omega); have HB1 := Lib.hid hb; clear hb hs) | (go_at_call 49; refine (l01Unit_any _ _ _ _).mono ?_; rintro e wU ⟨_, rfl, ⟨q0, q1, q2, rfl, hp⟩, hb⟩; have HQ := Lib.hid hp; clear hp; have hne1 : ¬ w.heap.size + 1 = wU.heap.size := (by have hq := hb.size; (try simp at hq); omega); have hne2 : ¬ wU.heap.size = w.heap.size + 1 := (by have hq := hb.size; (try simp at hq); omega); obtain ⟨hc2, hf2⟩ := bcell hb; (try simp only [World.heap_drewN, World.cell?_drewN, World.frozen?_drewN] at hc2 hf2); have hs := hb.size; (try simp at hs); have hz2a : w.heap.size < wU.heap.size := (by omega); have hz2b : w.heap.size + 1 < wU.heap.size := (by omega); have HB2 := Lib.hid hb; clear hb hs))
  all_goals
    first
      | simp [bodyPost, results, Try.results22, go_sem, hc1, hf1, hz1a, hz1b, hc2, hf2, hz2a, hz2b, hne1, hne2]
      | simp [bodyPost, results, Try.results22, go_sem, hc1, hf1, hz1a, hz1b]
      | simp [bodyPost, results, Try.results22, go_sem]
    first
    | (have hU : unitOfS (cp x0 x1 x2) = (zeroP, 1) := (by simp [unitOfS, h0]); rw [hU]; exact ⟨_, rfl, isPI_mk zero_cp rfl, by ((try simp only [Hid] at *); repeat' (first | (with_reducible exact Below.refl _ _) | (with_reducible refine below_drewN ?_ _) | (with_reducible refine Below.drew ?_) | (with_reducible refine below_alloc ?_) | (with_reducible refine below_set ?_ ?_) | (refine below_step (by with_reducible assumption) ?_) | (simp; done) | (simp; omega) | omega))⟩)
    | (have hU : unitOfS (cp x0 x1 x2) = (zeroP, 4) := (by simp [unitOfS, unitOk, h0, h1]); rw [hU]; exact ⟨_, rfl, isPI_mk zero_cp rfl, by ((try simp only [Hid] at *); repeat' (first | (with_reducible exact Below.refl _ _) | (with_reducible refine below_drewN ?_ _) | (with_reducible refine Below.drew ?_) | (with_reducible refine below_alloc ?_) | (with_reducible refine below_set ?_ ?_) | (refine below_step (by with_reducible assumption) ?_) | (simp; done) | (simp; omega) | omega))⟩)
    | (have hU : unitOfS (cp x0 x1 x2) = ((unitS (cp x0 x1 x2)).1, 0) := (by simp [unitOfS, unitOk, h0, h1]); rw [hU]; exact ⟨_, rfl, isPI_mk HQ.out rfl, by ((try simp only [Hid] at *); repeat' (first | (with_reducible exact Below.refl _ _) | (with_reducible refine below_drewN ?_ _) | (with_reducible refine Below.drew ?_) | (with_reducible refine below_alloc ?_) | (with_reducible refine below_set ?_ ?_) | (refine below_step (by with_reducible assumption) ?_) | (simp; done) | (simp; omega) | omega))⟩)


--## end
end Go.Proofs.Ytdjnleomfmfdkab
