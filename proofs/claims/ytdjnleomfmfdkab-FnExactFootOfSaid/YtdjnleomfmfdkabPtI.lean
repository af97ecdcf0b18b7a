/- Contracts: sides, feet, mirrored points. -/
import Derived.Test.YtdjnleomfmfdkabPtH
import Derived.Deep.RegionHeld3
namespace Go.Proofs.Ytdjnleomfmfdkab
open Go.RowKit Go.Flo
set_option linter.unusedSimpArgs false
set_option linter.unusedVariables false

theorem side_some {x0 x1 x2 x3 : Nat} {p : V3} {y0 y1 y2 : Nat} (hp : p = cp y0 y1 y2) (h0 : validPl (cpl x0 x1 x2 x3) = true) (h1 : plainP p = true) : ∃ s, sideV (cpl x0 x1 x2 x3) p = some s ∧ rung Ieee.single s ≤ 170 * Ieee.single.binade := by
  subst hp
  unfold validPl cpl at h0
  simp only [Bool.and_eq_true] at h0
  obtain ⟨n0, n1, n2⟩ := plainP_bd h0.1.1.1
  obtain ⟨m0, m1, m2⟩ := plainP_bd h1
  have hd := bd_dot (e := 147) (p := cp x0 x1 x2) (q := cp y0 y1 y2) n0 n1 n2 m0 m1 m2 (by omega)
  exact bd_sub (e := 169) hd (bd_mono (bd_plain h0.1.1.2) (by omega)) (by omega)
theorem arith_some {P : Program} {op : BinOp} (h : op = .add ∨ op = .sub ∨ op = .mul ∨ op = .quo) {a b r : Nat} (t : TypeId) (hr : vop op .f32 (kcv .f32 a) (kcv .f32 b) = some r) (w : World) : (binOp op t (.float .f32 a) (.float .f32 b)).run P w = .ok (.float .f32 r) w :=
  run_float_arith w op t .f32 a b r ((vop_bits h .f32 a b).trans hr)
theorem twice_some {s : Nat} (h : rung Ieee.single s ≤ 170 * Ieee.single.binade) : ∃ m, mul (c32 1073741824) (some s) = some m := by
  have h2 : bd 128 (c32 1073741824) := ⟨1073741824, by kernel_rfl, by decide⟩
  obtain ⟨m, hm, _⟩ := bd_mul (e := 171) h2 ⟨s, rfl, h⟩ (by omega) (by omega) (by omega) (by omega)
  exact ⟨m, hm⟩
theorem cv_of_bd {s e : Nat} (he : e ≤ 254) (h : rung Ieee.single s ≤ e * Ieee.single.binade) : kcv .f32 s = some s := some_of (Nat.le_of_lt (fin_of_bd he h))

--## side
set_option maxHeartbeats 1600000 in
theorem side_any (x0 x1 x2 x3 y0 y1 y2 : Nat) (s : Nat) (hs : sideV (cpl x0 x1 x2 x3) (cp y0 y1 y2) = some s) (w : World) :
    Calls Try.prog 67 #[.agg #[.float .f32 x0, .float .f32 x1, .float .f32 x2, .float .f32 x3], .agg #[.float .f32 y0, .float .f32 y1, .float .f32 y2]] w (Gives (fun v => v = .float .f32 s) w) := by
  have Hs := Lib.hid hs; clear hs
  go_enter Try.func67, Try.ntmps67
  go_wp2
  go_region_held3 (fun W => W.cell? ⟨w.heap.size, 0, none⟩ = some (.float .f32 x0) ∧ W.cell? ⟨w.heap.size, 1, none⟩ = some (.float .f32 x1) ∧ W.cell? ⟨w.heap.size, 2, none⟩ = some (.float .f32 x2) ∧ W.cell? ⟨w.heap.size, 3, none⟩ = some (.float .f32 x3) ∧ W.cell? ⟨w.heap.size + 1, 0, none⟩ = some (.float .f32 y0) ∧ W.cell? ⟨w.heap.size + 1, 1, none⟩ = some (.float .f32 y1) ∧ W.cell? ⟨w.heap.size + 1, 2, none⟩ = some (.float .f32 y2)) (first | (go_keep; done) | (simp [go_sem, *]; done)) (first | (go_at_call 73; refine (dot_any _ _ _ _ _ _ _).mono ?_; rintro e w' ⟨_, rfl, ⟨d, rfl, hp⟩, hb⟩; have HD := Lib.hid hp; clear hp; have hq : vop .sub .f32 (kcv .f32 d) (kcv .f32 x3) = some s := (by rw [HD.out]; exact Hs.out); have hrun := fun w => arith_some (P := Try.prog) (.inr (.inl rfl)) 22 hq w; clear hq; obtain ⟨hc, hf⟩ := bcell hb; (try simp only [World.drew_is_drewN, World.heap_drewN, World.cell?_drewN, World.frozen?_drewN] at hc hf); have hs := hb.size; (try simp at hs); have hz_0 : w.heap.size < w'.heap.size := (by omega); have hl_0 : w.heap.size ≤ w'.heap.size := (by omega); have hm_0 : w.heap.size < w'.heap.size + 1 := (by omega); have hz_1 : w.heap.size + 1 < w'.heap.size := (by omega); have hl_1 : w.heap.size + 1 ≤ w'.heap.size := (by omega); have hm_1 : w.heap.size + 1 < w'.heap.size + 1 := (by omega); have HB := Lib.hid hb; clear hb hs))
  go_wp2
  simp [bodyPost, results, Try.results67, go_sem, *]
  exact ⟨_, rfl, rfl, by ((try simp only [Hid] at *); repeat' (first | (with_reducible exact Below.refl _ _) | (with_reducible assumption) | (with_reducible refine below_drewN ?_ _) | (with_reducible refine Below.drew ?_) | (with_reducible refine below_alloc ?_) | (with_reducible refine below_set ?_ ?_) | (refine below_step (by with_reducible assumption) ?_) | (simp; done) | (simp; omega) | omega))⟩

--## l01Side
set_option maxHeartbeats 1600000 in
theorem l01Side_any (x0 x1 x2 x3 y0 y1 y2 : Nat) (s : Nat) (hs : sideV (cpl x0 x1 x2 x3) (cp y0 y1 y2) = some s) (b : Nat) (w : World) (hlt : b < w.heap.size) (g0 : w.cell? ⟨b, 0, none⟩ = some (.float .f32 x0)) (g1 : w.cell? ⟨b, 1, none⟩ = some (.float .f32 x1)) (g2 : w.cell? ⟨b, 2, none⟩ = some (.float .f32 x2)) (g3 : w.cell? ⟨b, 3, none⟩ = some (.float .f32 x3)) :
    Calls Try.prog 65 #[.pointer (some ⟨b, 0, none⟩), .agg #[.float .f32 y0, .float .f32 y1, .float .f32 y2]] w (Gives (fun v => v = .float .f32 s) w) := by
  have Hs := Lib.hid hs; clear hs
  have hlt1 : b < w.heap.size + 1 := by omega
  have hne1 : ¬ b = w.heap.size := by omega
  have hne2 : ¬ w.heap.size = b := by omega
  go_enter Try.func65, Try.ntmps65
  go_wp2
  go_region_held3 (fun W => W.cell? ⟨b, 0, none⟩ = some (.float .f32 x0) ∧ W.cell? ⟨b, 1, none⟩ = some (.float .f32 x1) ∧ W.cell? ⟨b, 2, none⟩ = some (.float .f32 x2) ∧ W.cell? ⟨b, 3, none⟩ = some (.float .f32 x3) ∧ W.cell? ⟨w.heap.size, 0, none⟩ = some (.float .f32 y0) ∧ W.cell? ⟨w.heap.size, 1, none⟩ = some (.float .f32 y1) ∧ W.cell? ⟨w.heap.size, 2, none⟩ = some (.float .f32 y2)) (first | (go_keep; done) | (simp [go_sem, *]; done)) (first | (go_at_call 46; refine (DotOfS _ _ _ _ _ _ _).mono ?_; rintro e w' ⟨_, rfl, ⟨d, rfl, hp⟩, hb⟩; have HD := Lib.hid hp; clear hp; have hq : vop .sub .f32 (kcv .f32 d) (kcv .f32 x3) = some s := (by rw [HD.out]; exact Hs.out); have hrun := fun w => arith_some (P := Try.prog) (.inr (.inl rfl)) 22 hq w; clear hq; obtain ⟨hc, hf⟩ := bcell hb; (try simp only [World.drew_is_drewN, World.heap_drewN, World.cell?_drewN, World.frozen?_drewN] at hc hf); have hs := hb.size; (try simp at hs); have hz_0 : w.heap.size < w'.heap.size := (by omega); have hl_0 : w.heap.size ≤ w'.heap.size := (by omega); have hm_0 : w.heap.size < w'.heap.size + 1 := (by omega); have hb0 : b < w'.heap.size := (by omega); have hb1 : b ≤ w'.heap.size := (by omega); have hb2 : b < w'.heap.size + 1 := (by omega); have HB := Lib.hid hb; clear hb hs))
  go_wp2
  simp [bodyPost, results, Try.results65, go_sem, *]
  exact ⟨_, rfl, rfl, by ((try simp only [Hid] at *); repeat' (first | (with_reducible exact Below.refl _ _) | (with_reducible assumption) | (with_reducible refine below_drewN ?_ _) | (with_reducible refine Below.drew ?_) | (with_reducible refine below_alloc ?_) | (with_reducible refine below_set ?_ ?_) | (refine below_step (by with_reducible assumption) ?_) | (simp; done) | (simp; omega) | omega))⟩

--## end
end Go.Proofs.Ytdjnleomfmfdkab
