/- Contracts: units. -/
import Derived.Test.YtljpggeogiabgaaPtC
import Derived.Test.YtljpggeogiabgaaMathD
import Derived.Deep.RegionHeld3
namespace Go.Proofs.Ytljpggeogiabgaa
open Go.RowKit Go.Flo
set_option linter.unusedSimpArgs false
set_option linter.unusedVariables false

theorem isPI.out {x : V3 × Int} {v : Value} (h : isPI x v) : ∃ r0 r1 r2, v = .tuple #[.agg #[.float .f32 r0, .float .f32 r1, .float .f32 r2], .int .i64 x.2] ∧ cp r0 r1 r2 = x.1 := by
  obtain ⟨r0, r1, r2, h, h0, h1, h2⟩ := h
  exact ⟨r0, r1, r2, h, cp_eq h0 h1 h2⟩
theorem isPI_mk {r0 r1 r2 : Nat} {x : V3 × Int} (h : cp r0 r1 r2 = x.1) {n : Int} (hn : n = x.2) : isPI x (.tuple #[.agg #[.float .f32 r0, .float .f32 r1, .float .f32 r2], .int .i64 n]) := by
  obtain ⟨p, q⟩ := x
  simp only at h hn
  subst h; subst hn; exact ⟨r0, r1, r2, rfl, rfl, rfl, rfl⟩
def isPB (x : V3 × Bool) (v : Value) : Prop := ∃ r0 r1 r2, v = .tuple #[.agg #[.float .f32 r0, .float .f32 r1, .float .f32 r2], .bool x.2] ∧ cp r0 r1 r2 = x.1
theorem zero_cp : cp 0 0 0 = zeroP := rfl
def unitI (p : V3) : V3 × Int := if (!finV (lenV p)) || smallI (lenV p) then (zeroP, 4) else doneV (overP p (lenV p))
def unitS (p : V3) : V3 × Bool := if !ge (lenV p) (c32 897581056) then (zeroP, false) else (overP p (lenV p), finP (overP p (lenV p)))

--## unit_any
set_option maxHeartbeats 800000 in
theorem unit_any (x0 x1 x2 : Nat) (w : World) :
    Calls Try.prog 59 #[.agg #[.float .f32 x0, .float .f32 x1, .float .f32 x2]] w (Gives (isPI (unitI (cp x0 x1 x2))) w) := by
  cases h0 : finV (lenV (cp x0 x1 x2)) <;> cases h1 : smallI (lenV (cp x0 x1 x2))
  all_goals
  go_enter Try.func59, Try.ntmps59
  go_wp2_with (first | (go_at_call 66; refine (length_any _ _ _ _).mono ?_; rintro e w' ⟨_, rfl, ⟨r, rfl, hp⟩, hb⟩; have HL := Lib.hid hp; clear hp; obtain ⟨hc1, hf1⟩ := bcell hb; (try simp only [World.heap_drewN, World.cell?_drewN, World.frozen?_drewN] at hc1 hf1); have hs := hb.size; (try simp at hs); have hz1a : w.heap.size < w'.heap.size := (by omega); have hz1b : w.heap.size + 1 < w'.heap.size := (by omega); have HB1 := Lib.hid hb; clear hb hs) | (go_at_call 67; refine (isFinite_any _ _).mono ?_; rintro e w' ⟨_, rfl, rfl, rfl⟩; rw [HL.out]) | (go_at_call 42; refine (isTooSmall_any _ _).mono ?_; rintro e w' ⟨_, n, rfl, rfl, rfl⟩; rw [HL.out]) | (go_at_call 68; refine (over_any _ _ _ _ _).mono ?_; rintro e w' ⟨_, rfl, hv, hb⟩; obtain ⟨p0, p1, p2, rfl, hp⟩ := hv.out; clear hv; have HO := Lib.hid hp; clear hp; obtain ⟨hc2, hf2⟩ := bcell hb; (try simp only [World.heap_drewN, World.cell?_drewN, World.frozen?_drewN] at hc2 hf2); have hs := hb.size; (try simp at hs); have hz2a : w.heap.size < w'.heap.size := (by omega); have hz2b : w.heap.size + 1 < w'.heap.size := (by omega); have HB2 := Lib.hid hb; clear hb hs) | (go_at_call 69; refine (ifFinite_any _ _ _ _).mono ?_; rintro e w' ⟨_, rfl, hv, hb⟩; obtain ⟨q0, q1, q2, rfl, hp⟩ := hv.out; clear hv; have HI := Lib.hid hp; clear hp; obtain ⟨hc3, hf3⟩ := bcell hb; (try simp only [World.heap_drewN, World.cell?_drewN, World.frozen?_drewN] at hc3 hf3); have hs := hb.size; (try simp at hs); have hz3a : w.heap.size < w'.heap.size := (by omega); have hz3b : w.heap.size + 1 < w'.heap.size := (by omega); have HB3 := Lib.hid hb; clear hb hs))
  all_goals
    first
      | simp [bodyPost, results, Try.results59, go_sem, hc1, hf1, hz1a, hz1b, hc2, hf2, hz2a, hz2b, hc3, hf3, hz3a, hz3b]
      | simp [bodyPost, results, Try.results59, go_sem, hc1, hf1, hz1a, hz1b]
      | simp [bodyPost, results, Try.results59, go_sem]
    first
    | (have hU : unitI (cp x0 x1 x2) = (zeroP, 4) := (by simp [unitI, h0, h1]); rw [hU]; exact ⟨_, rfl, isPI_mk zero_cp rfl, by ((try simp only [Hid] at *); repeat' (first | (with_reducible exact Below.refl _ _) | (with_reducible refine below_drewN ?_ _) | (with_reducible refine Below.drew ?_) | (with_reducible refine below_alloc ?_) | (with_reducible refine below_set ?_ ?_) | (refine below_step (by with_reducible assumption) ?_) | (simp; done) | (simp; omega) | omega))⟩)
    | (have hU : unitI (cp x0 x1 x2) = doneV (overP (cp x0 x1 x2) (lenV (cp x0 x1 x2))) := (by simp [unitI, h0, h1]); rw [hU]; exact ⟨_, rfl, isPI_mk (by (simp only [Hid] at *; simp only [*])) (by (simp only [Hid] at *; simp only [*])), by ((try simp only [Hid] at *); repeat' (first | (with_reducible exact Below.refl _ _) | (with_reducible refine below_drewN ?_ _) | (with_reducible refine Below.drew ?_) | (with_reducible refine below_alloc ?_) | (with_reducible refine below_set ?_ ?_) | (refine below_step (by with_reducible assumption) ?_) | (simp; done) | (simp; omega) | omega))⟩)


--## facts on tests
theorem ge_at {r c : Nat} {v : V} {b : Bool} (h : Hid (kcv .f32 r = v)) (hb : ge v (c32 c) = b) : (FloatKind.f32.format.order r c == some Ordering.gt || FloatKind.f32.format.order r c == some Ordering.eq) = b := by
  rw [← hb, ← h.out]; unfold ge c32; rw [ord32]
theorem le_at {r c : Nat} {v : V} {b : Bool} (h : Hid (kcv .f32 r = v)) (hb : le v (c32 c) = b) : (FloatKind.f32.format.order r c == some Ordering.lt || FloatKind.f32.format.order r c == some Ordering.eq) = b := by
  rw [← hb, ← h.out]; unfold le c32; rw [ord32]
theorem isPB_mk {r0 r1 r2 : Nat} {x : V3 × Bool} (h : cp r0 r1 r2 = x.1) {n : Bool} (hn : n = x.2) : isPB x (.tuple #[.agg #[.float .f32 r0, .float .f32 r1, .float .f32 r2], .bool n]) := by
  subst hn; exact ⟨r0, r1, r2, rfl, h⟩

--## l01Unit 47
set_option maxHeartbeats 800000 in
theorem l01Unit_false (x0 x1 x2 : Nat) (h0 : ge (lenV (cp x0 x1 x2)) (c32 897581056) = false) (w : World) :
    Calls Try.prog 47 #[.agg #[.float .f32 x0, .float .f32 x1, .float .f32 x2]] w (Gives (isPB (unitS (cp x0 x1 x2))) w) := by
  have tok_q0 : True := trivial
  have tok_q1 : True := trivial
  have tok_q2 : True := trivial
  go_enter Try.func47, Try.ntmps47
  go_wp2_with (first | (go_at_call 56; refine (LengthOfS _ _ _ _).mono ?_; rintro e wL ⟨_, rfl, ⟨r, rfl, hp⟩, hb⟩; have HL := Lib.hid hp; clear hp; obtain ⟨hc1, hf1⟩ := bcell hb; (try simp only [World.heap_drewN, World.cell?_drewN, World.frozen?_drewN] at hc1 hf1); have hs := hb.size; (try simp at hs); have hz1a : w.heap.size < wL.heap.size := (by omega); have hz1b : w.heap.size + 1 < wL.heap.size := (by omega); have HB1 := Lib.hid hb; clear hb hs; have hne1 : ¬ w.heap.size + 1 = wL.heap.size := (by omega); have hne2 : ¬ wL.heap.size = w.heap.size + 1 := (by omega); have ht := ge_at HL h0) | (clear tok_q0; refine wpList_arith rfl _ _ _ _ _ rfl (by decide) _ _ _ rfl rfl ?_; intro q0 n_q0 h_q0) | (clear tok_q1; refine wpList_arith rfl _ _ _ _ _ rfl (by decide) _ _ _ rfl rfl ?_; intro q1 n_q1 h_q1) | (clear tok_q2; refine wpList_arith rfl _ _ _ _ _ rfl (by decide) _ _ _ rfl rfl ?_; intro q2 n_q2 h_q2))
  all_goals
    first
      | simp [bodyPost, results, Try.results47, go_sem, hc1, hf1, hz1a, hz1b]
      | simp [bodyPost, results, Try.results47, go_sem]
    first
    | (have hU : unitS (cp x0 x1 x2) = (zeroP, false) := (by simp [unitS, h0]); rw [hU]; exact ⟨_, rfl, isPB_mk zero_cp rfl, by ((try simp only [Hid] at *); repeat' (first | (with_reducible exact Below.refl _ _) | (with_reducible refine below_drewN ?_ _) | (with_reducible refine Below.drew ?_) | (with_reducible refine below_alloc ?_) | (with_reducible refine below_set ?_ ?_) | (refine below_step (by with_reducible assumption) ?_) | (simp; done) | (simp; omega) | omega))⟩)
set_option maxHeartbeats 800000 in
theorem l01Unit_true (x0 x1 x2 : Nat) (h0 : ge (lenV (cp x0 x1 x2)) (c32 897581056) = true) (w : World) :
    Calls Try.prog 47 #[.agg #[.float .f32 x0, .float .f32 x1, .float .f32 x2]] w (Gives (isPB (unitS (cp x0 x1 x2))) w) := by
  have tok_q0 : True := trivial
  have tok_q1 : True := trivial
  have tok_q2 : True := trivial
  go_enter Try.func47, Try.ntmps47
  go_wp2_with (first | (go_at_call 56; refine (LengthOfS _ _ _ _).mono ?_; rintro e wL ⟨_, rfl, ⟨r, rfl, hp⟩, hb⟩; have HL := Lib.hid hp; clear hp; obtain ⟨hc1, hf1⟩ := bcell hb; (try simp only [World.heap_drewN, World.cell?_drewN, World.frozen?_drewN] at hc1 hf1); have hs := hb.size; (try simp at hs); have hz1a : w.heap.size < wL.heap.size := (by omega); have hz1b : w.heap.size + 1 < wL.heap.size := (by omega); have HB1 := Lib.hid hb; clear hb hs; have hne1 : ¬ w.heap.size + 1 = wL.heap.size := (by omega); have hne2 : ¬ wL.heap.size = w.heap.size + 1 := (by omega); have ht := ge_at HL h0) | (clear tok_q0; refine wpList_arith rfl _ _ _ _ _ rfl (by decide) _ _ _ rfl rfl ?_; intro q0 n_q0 h_q0) | (clear tok_q1; refine wpList_arith rfl _ _ _ _ _ rfl (by decide) _ _ _ rfl rfl ?_; intro q1 n_q1 h_q1) | (clear tok_q2; refine wpList_arith rfl _ _ _ _ _ rfl (by decide) _ _ _ rfl rfl ?_; intro q2 n_q2 h_q2))
  go_region_held3 (fun W => W.cell? ⟨wL.heap.size, 0, none⟩ = some (.float .f32 q0) ∧ W.cell? ⟨wL.heap.size, 1, none⟩ = some (.float .f32 q1) ∧ W.cell? ⟨wL.heap.size, 2, none⟩ = some (.float .f32 q2)) (first | go_keep) (first | (go_at_call 57; refine (l01Finites_any _ _ _ _).mono ?_; rintro e w' ⟨_, rfl, rfl, hb⟩; obtain ⟨hc2, hf2⟩ := bcell hb; (try simp only [World.heap_drewN, World.cell?_drewN, World.frozen?_drewN] at hc2 hf2); have hs := hb.size; (try simp at hs); have hz2a : w.heap.size < w'.heap.size := (by omega); have hz2b : w.heap.size + 1 < w'.heap.size := (by omega); have HB2 := Lib.hid hb; clear hb hs))
  go_wp2
  all_goals
    first
      | simp [bodyPost, results, Try.results47, go_sem, hc1, hf1, hz1a, hz1b, hc2, hf2, hz2a, hz2b, hne1, hne2]
      | simp [bodyPost, results, Try.results47, go_sem]
    first
    | (have hU : unitS (cp x0 x1 x2) = (overP (cp x0 x1 x2) (lenV (cp x0 x1 x2)), finP (overP (cp x0 x1 x2) (lenV (cp x0 x1 x2)))) := (by simp [unitS, h0]); have hq : cp q0 q1 q2 = overP (cp x0 x1 x2) (lenV (cp x0 x1 x2)) := (by rw [← HL.out]; exact cp_eq h_q0.out h_q1.out h_q2.out); rw [hU]; exact ⟨_, rfl, isPB_mk hq (by rw [hq]), by ((try simp only [Hid] at *); repeat' (first | (with_reducible exact Below.refl _ _) | (with_reducible refine below_drewN ?_ _) | (with_reducible refine Below.drew ?_) | (with_reducible refine below_alloc ?_) | (with_reducible refine below_set ?_ ?_) | (refine below_step (by with_reducible assumption) ?_) | (simp; done) | (simp; omega) | omega))⟩)
theorem l01Unit_any (x0 x1 x2 : Nat) (w : World) : Calls Try.prog 47 #[.agg #[.float .f32 x0, .float .f32 x1, .float .f32 x2]] w (Gives (isPB (unitS (cp x0 x1 x2))) w) := by
  cases h0 : ge (lenV (cp x0 x1 x2)) (c32 897581056)
  · exact l01Unit_false x0 x1 x2 h0 w
  · exact l01Unit_true x0 x1 x2 h0 w

--## end
end Go.Proofs.Ytljpggeogiabgaa
