--## law
/- The law FnExactClipStroke: for every input the function ClipStroke answers as its model, and the law returns true. No condition. -/
import Derived.Test.YtbkcoiojcjmmlaaOpen
import Derived.Test.YtbkcoiojcjmmlaaMrkJ
import Derived.Test.YtbkcoiojcjmmlaaMrkO
namespace Go.Proofs.Ytbkcoiojcjmmlaa.lawExactClipStroke
open Go.ChangeShapes Go.WideShapes Go.ChangeAt Go.RowKit Go.Flo
open Go.ChangeMaps (open_string shut_string)
set_option linter.unusedSimpArgs false
set_option linter.unusedVariables false

set_option maxHeartbeats 4000000 in
theorem walk (x0_0 x0_1 x0_2 x0_3 x0_4 : Int) (x1_0 x1_1 : Int) (x2_0 x2_1 : Int) (w0_0 : I16 x0_0) (w0_1 : I16 x0_1) (w0_2 : I16 x0_2) (w0_3 : I16 x0_3) (w0_4 : I8 x0_4) (w1_0 : I16 x1_0) (w1_1 : I16 x1_1) (w2_0 : I16 x2_0) (w2_1 : I16 x2_1) (w : World) :
    Calls Try.prog 6 #[st x0_0 x0_1 x0_2 x0_3 x0_4, mk x1_0 x1_1, mk x2_0 x2_1] w (Gives (isB true) w) := by
  obtain ⟨A, B, C, D, E, f, k, hV⟩ := clipV_shape x0_0 x0_1 x0_2 x0_3 x0_4 x1_0 x1_1 x2_0 x2_1
  have Hs := ClipStrokeS x0_0 x0_1 x0_2 x0_3 x0_4 x1_0 x1_1 x2_0 x2_1 w0_0 w0_1 w0_2 w0_3 w0_4 w1_0 w1_1 w2_0 w2_1
  have Hi := ClipStrokeI x0_0 x0_1 x0_2 x0_3 x0_4 x1_0 x1_1 x2_0 x2_1 w0_0 w0_1 w0_2 w0_3 w0_4
  have t1 : True := trivial
  have t2 : True := trivial
  have hK : ∀ W, Bel (((w.alloc (.cells #[.int .i16 x0_0, .int .i16 x0_1, .int .i16 x0_2, .int .i16 x0_3, .int .i8 x0_4] 26)).alloc (.cells #[.int .i16 x1_0, .int .i16 x1_1] 23)).alloc (.cells #[.int .i16 x2_0, .int .i16 x2_1] 23)) W → W.cell? ⟨w.heap.size, 0, none⟩ = some (.int .i16 x0_0) ∧ W.cell? ⟨w.heap.size, 1, none⟩ = some (.int .i16 x0_1) ∧ W.cell? ⟨w.heap.size, 2, none⟩ = some (.int .i16 x0_2) ∧ W.cell? ⟨w.heap.size, 3, none⟩ = some (.int .i16 x0_3) ∧ W.cell? ⟨w.heap.size, 4, none⟩ = some (.int .i8 x0_4) ∧ W.cell? ⟨w.heap.size + 1, 0, none⟩ = some (.int .i16 x1_0) ∧ W.cell? ⟨w.heap.size + 1, 1, none⟩ = some (.int .i16 x1_1) ∧ W.cell? ⟨w.heap.size + 1 + 1, 0, none⟩ = some (.int .i16 x2_0) ∧ W.cell? ⟨w.heap.size + 1 + 1, 1, none⟩ = some (.int .i16 x2_1) ∧ Bel (((w.alloc (.cells #[.int .i16 x0_0, .int .i16 x0_1, .int .i16 x0_2, .int .i16 x0_3, .int .i8 x0_4] 26)).alloc (.cells #[.int .i16 x1_0, .int .i16 x1_1] 23)).alloc (.cells #[.int .i16 x2_0, .int .i16 x2_1] 23)) W := fun W hB => by
    have hcc : ∀ bk o, bk < w.heap.size + 1 + 1 + 1 → W.cell? ⟨bk, o, none⟩ = (((w.alloc (.cells #[.int .i16 x0_0, .int .i16 x0_1, .int .i16 x0_2, .int .i16 x0_3, .int .i8 x0_4] 26)).alloc (.cells #[.int .i16 x1_0, .int .i16 x1_1] 23)).alloc (.cells #[.int .i16 x2_0, .int .i16 x2_1] 23)).cell? ⟨bk, o, none⟩ := fun bk o h => (bcell (W := (((w.alloc (.cells #[.int .i16 x0_0, .int .i16 x0_1, .int .i16 x0_2, .int .i16 x0_3, .int .i8 x0_4] 26)).alloc (.cells #[.int .i16 x1_0, .int .i16 x1_1] 23)).alloc (.cells #[.int .i16 x2_0, .int .i16 x2_1] 23))) (w1 := W) hB.out).1 bk o (by simpa using h)
    refine ⟨?_, ?_, ?_, ?_, ?_, ?_, ?_, ?_, ?_, hB⟩
    all_goals
      rw [hcc _ _ (by omega)]
      simp [go_sem]
  have hL : ∀ W, Bel (((w.alloc (.cells #[.int .i16 x0_0, .int .i16 x0_1, .int .i16 x0_2, .int .i16 x0_3, .int .i8 x0_4] 26)).alloc (.cells #[.int .i16 x1_0, .int .i16 x1_1] 23)).alloc (.cells #[.int .i16 x2_0, .int .i16 x2_1] 23)) W → Below w.heap.size w W := fun W hB => below_step hB.out (below_alloc (below_alloc (below_alloc (Below.refl _ _))))
  go_enter Try.func6, Try.ntmps6
  go_wp2_with fail
  go_cut [7, 8, 9] (fun s7 s8 s9 wx => ∃ g0, s7 = .pointer (some ⟨g0, 0, none⟩) ∧ s8 = .bool f ∧ s9 = .int .i64 k ∧ wx.cell? ⟨g0, 0, none⟩ = some (.int .i16 A) ∧ wx.cell? ⟨g0, 1, none⟩ = some (.int .i16 B) ∧ wx.cell? ⟨g0, 2, none⟩ = some (.int .i16 C) ∧ wx.cell? ⟨g0, 3, none⟩ = some (.int .i16 D) ∧ wx.cell? ⟨g0, 4, none⟩ = some (.int .i8 E) ∧ (((w.alloc (.cells #[.int .i16 x0_0, .int .i16 x0_1, .int .i16 x0_2, .int .i16 x0_3, .int .i8 x0_4] 26)).alloc (.cells #[.int .i16 x1_0, .int .i16 x1_1] 23)).alloc (.cells #[.int .i16 x2_0, .int .i16 x2_1] 23)).heap.size ≤ g0 ∧ g0 < wx.heap.size ∧ Bel (((w.alloc (.cells #[.int .i16 x0_0, .int .i16 x0_1, .int .i16 x0_2, .int .i16 x0_3, .int .i8 x0_4] 26)).alloc (.cells #[.int .i16 x1_0, .int .i16 x1_1] 23)).alloc (.cells #[.int .i16 x2_0, .int .i16 x2_1] 23)) wx)
  case first =>
    go_region_held3 (fun W => W.cell? ⟨w.heap.size, 0, none⟩ = some (.int .i16 x0_0) ∧ W.cell? ⟨w.heap.size, 1, none⟩ = some (.int .i16 x0_1) ∧ W.cell? ⟨w.heap.size, 2, none⟩ = some (.int .i16 x0_2) ∧ W.cell? ⟨w.heap.size, 3, none⟩ = some (.int .i16 x0_3) ∧ W.cell? ⟨w.heap.size, 4, none⟩ = some (.int .i8 x0_4) ∧ W.cell? ⟨w.heap.size + 1, 0, none⟩ = some (.int .i16 x1_0) ∧ W.cell? ⟨w.heap.size + 1, 1, none⟩ = some (.int .i16 x1_1) ∧ W.cell? ⟨w.heap.size + 1 + 1, 0, none⟩ = some (.int .i16 x2_0) ∧ W.cell? ⟨w.heap.size + 1 + 1, 1, none⟩ = some (.int .i16 x2_1) ∧ Bel (((w.alloc (.cells #[.int .i16 x0_0, .int .i16 x0_1, .int .i16 x0_2, .int .i16 x0_3, .int .i8 x0_4] 26)).alloc (.cells #[.int .i16 x1_0, .int .i16 x1_1] 23)).alloc (.cells #[.int .i16 x2_0, .int .i16 x2_1] 23)) W) (first | (with_reducible assumption) | (refine hK _ ?_; (repeat' (first | (with_reducible exact Bel.refl _) | (with_reducible assumption) | (with_reducible exact And.right (And.right (And.right (And.right (And.right (And.right (And.right (And.right (And.right (by assumption)))))))))) | (with_reducible refine Bel.drew ?_) | (with_reducible refine Bel.alloc ?_) | (with_reducible refine Bel.set ?_ ?_) | (with_reducible refine Bel.step ?_ hb) | (simp; done) | (simp; omega) | omega)); done) | go_keep) (first | (go_at_call 12; refine (toStrokeA _ _ _ _ _ _).mono ?_; rintro e w1 ⟨_, rfl, rfl, hb1⟩; have HBl1 := Bel.step (And.right (And.right (And.right (And.right (And.right (And.right (And.right (And.right (And.right (by assumption)))))))))) hb1; (try (have y1 := fr5_fresh (Nat.le_refl _) hb1)); (try (have y1 := fr5_freshD (Nat.le_refl _) hb1)); (try (have y1 := fr5_freshE (Nat.le_refl _) hb1)); (try (have y1 := y1.eq (g' := w.heap.size + 1 + 1 + 1) (by simp)))) | (clear t1; go_at_call 22; refine (toMarkA _ _ _).mono ?_; rintro e w2 ⟨_, rfl, rfl, hb2⟩; have HBl2 := Bel.step (And.right (And.right (And.right (And.right (And.right (And.right (And.right (And.right (And.right (by assumption)))))))))) hb2; (try (have y1 := y1.keep hb2)); (try (have y2 := fr5_fresh HBl1.out.size hb2)); (try (have y2 := fr5_freshD HBl1.out.size hb2)); (try (have y2 := fr5_freshE HBl1.out.size hb2))) | (go_at_call 22; refine (toMarkA _ _ _).mono ?_; rintro e w3 ⟨_, rfl, rfl, hb3⟩; have HBl3 := Bel.step (And.right (And.right (And.right (And.right (And.right (And.right (And.right (And.right (And.right (by assumption)))))))))) hb3; (try (have y1 := y1.keep hb3)); (try (have y2 := y2.keep hb3)); (try (have y3 := fr5_fresh HBl2.out.size hb3)); (try (have y3 := fr5_freshD HBl2.out.size hb3)); (try (have y3 := fr5_freshE HBl2.out.size hb3))) | (go_at_call 21; refine (Hs _).mono ?_; rw [hV]; rintro e w4 ⟨_, rfl, rfl, hb4⟩; have HBl4 := Bel.step (And.right (And.right (And.right (And.right (And.right (And.right (And.right (And.right (And.right (by assumption)))))))))) hb4; (try (have y1 := y1.keep hb4)); (try (have y2 := y2.keep hb4)); (try (have y3 := y3.keep hb4)); (try (have y4 := fr5_fresh HBl3.out.size hb4)); (try (have y4 := fr5_freshD HBl3.out.size hb4)); (try (have y4 := fr5_freshE HBl3.out.size hb4)); (try (obtain ⟨lo1, hi1, ya1, yb1, yc1, yd1, ye1, yf1⟩ := y1)); (try (obtain ⟨lo2, hi2, ya2, yb2, yc2, yd2, ye2, yf2⟩ := y2)); (try (obtain ⟨lo3, hi3, ya3, yb3, yc3, yd3, ye3, yf3⟩ := y3)); (try (obtain ⟨lo4, hi4, ya4, yb4, yc4, yd4, ye4, yf4⟩ := y4))))
    all_goals
      go_wp2_with fail
      go_meet
      exact ⟨_, rfl, rfl, rfl, (by simp [go_sem, *]), (by simp [go_sem, *]), (by simp [go_sem, *]), (by simp [go_sem, *]), (by simp [go_sem, *]), (by first | assumption | exact HBl4.out.size), (by simp [*]), (by repeat' (first | (with_reducible exact Bel.refl _) | (with_reducible assumption) | (with_reducible exact And.right (And.right (And.right (And.right (And.right (And.right (And.right (And.right (And.right (by assumption)))))))))) | (with_reducible refine Bel.drew ?_) | (with_reducible refine Bel.alloc ?_) | (with_reducible refine Bel.set ?_ ?_) | (with_reducible refine Bel.step ?_ hb) | (simp; done) | (simp; omega) | omega))⟩
  case rest =>
    obtain ⟨g0, rfl, rfl, rfl, e0, e1, e2, e3, e4, lo0, hi0, HB0⟩ := hcut
    generalize wc = wd at *
    have hK2 : ∀ W, Bel wd W → W.cell? ⟨w.heap.size, 0, none⟩ = some (.int .i16 x0_0) ∧ W.cell? ⟨w.heap.size, 1, none⟩ = some (.int .i16 x0_1) ∧ W.cell? ⟨w.heap.size, 2, none⟩ = some (.int .i16 x0_2) ∧ W.cell? ⟨w.heap.size, 3, none⟩ = some (.int .i16 x0_3) ∧ W.cell? ⟨w.heap.size, 4, none⟩ = some (.int .i8 x0_4) ∧ W.cell? ⟨w.heap.size + 1, 0, none⟩ = some (.int .i16 x1_0) ∧ W.cell? ⟨w.heap.size + 1, 1, none⟩ = some (.int .i16 x1_1) ∧ W.cell? ⟨w.heap.size + 1 + 1, 0, none⟩ = some (.int .i16 x2_0) ∧ W.cell? ⟨w.heap.size + 1 + 1, 1, none⟩ = some (.int .i16 x2_1) ∧ W.cell? ⟨g0, 0, none⟩ = some (.int .i16 A) ∧ W.cell? ⟨g0, 1, none⟩ = some (.int .i16 B) ∧ W.cell? ⟨g0, 2, none⟩ = some (.int .i16 C) ∧ W.cell? ⟨g0, 3, none⟩ = some (.int .i16 D) ∧ W.cell? ⟨g0, 4, none⟩ = some (.int .i8 E) ∧ Bel wd W := fun W hW => by
      obtain ⟨k0, k1, k2, k3, k4, k5, k6, k7, k8, _⟩ := hK W (HB0.trans hW)
      obtain ⟨hcc, _⟩ := bcell hW.out
      exact ⟨k0, k1, k2, k3, k4, k5, k6, k7, k8, by rw [hcc _ _ hi0]; exact e0, by rw [hcc _ _ hi0]; exact e1, by rw [hcc _ _ hi0]; exact e2, by rw [hcc _ _ hi0]; exact e3, by rw [hcc _ _ hi0]; exact e4, hW⟩
    go_wp2_with fail
    go_cut [10, 11, 12] (fun s10 s11 s12 wx => ∃ g0, s10 = .pointer (some ⟨g0, 0, none⟩) ∧ s11 = .bool f ∧ s12 = .int .i64 k ∧ wx.cell? ⟨g0, 0, none⟩ = some (.int .i16 A) ∧ wx.cell? ⟨g0, 1, none⟩ = some (.int .i16 B) ∧ wx.cell? ⟨g0, 2, none⟩ = some (.int .i16 C) ∧ wx.cell? ⟨g0, 3, none⟩ = some (.int .i16 D) ∧ wx.cell? ⟨g0, 4, none⟩ = some (.int .i8 E) ∧ wd.heap.size ≤ g0 ∧ g0 < wx.heap.size ∧ Bel wd wx)
    case first =>
      go_region_held3 (fun W => W.cell? ⟨w.heap.size, 0, none⟩ = some (.int .i16 x0_0) ∧ W.cell? ⟨w.heap.size, 1, none⟩ = some (.int .i16 x0_1) ∧ W.cell? ⟨w.heap.size, 2, none⟩ = some (.int .i16 x0_2) ∧ W.cell? ⟨w.heap.size, 3, none⟩ = some (.int .i16 x0_3) ∧ W.cell? ⟨w.heap.size, 4, none⟩ = some (.int .i8 x0_4) ∧ W.cell? ⟨w.heap.size + 1, 0, none⟩ = some (.int .i16 x1_0) ∧ W.cell? ⟨w.heap.size + 1, 1, none⟩ = some (.int .i16 x1_1) ∧ W.cell? ⟨w.heap.size + 1 + 1, 0, none⟩ = some (.int .i16 x2_0) ∧ W.cell? ⟨w.heap.size + 1 + 1, 1, none⟩ = some (.int .i16 x2_1) ∧ W.cell? ⟨g0, 0, none⟩ = some (.int .i16 A) ∧ W.cell? ⟨g0, 1, none⟩ = some (.int .i16 B) ∧ W.cell? ⟨g0, 2, none⟩ = some (.int .i16 C) ∧ W.cell? ⟨g0, 3, none⟩ = some (.int .i16 D) ∧ W.cell? ⟨g0, 4, none⟩ = some (.int .i8 E) ∧ Bel wd W) (first | (with_reducible assumption) | (refine hK2 _ ?_; (repeat' (first | (with_reducible exact Bel.refl _) | (with_reducible assumption) | (with_reducible exact And.right (And.right (And.right (And.right (And.right (And.right (And.right (And.right (And.right (And.right (And.right (And.right (And.right (And.right (by assumption))))))))))))))) | (with_reducible refine Bel.drew ?_) | (with_reducible refine Bel.alloc ?_) | (with_reducible refine Bel.set ?_ ?_) | (simp; done) | (simp; omega) | omega)); done) | go_keep) (first | (go_at_call 12; refine (toStrokeA _ _ _ _ _ _).mono ?_; rintro e w1 ⟨_, rfl, rfl, hb1⟩; have HBl1 := Bel.step (And.right (And.right (And.right (And.right (And.right (And.right (And.right (And.right (And.right (And.right (And.right (And.right (And.right (And.right (by assumption))))))))))))))) hb1; (try (have y1 := fr5_fresh (Nat.le_refl _) hb1)); (try (have y1 := fr5_freshD (Nat.le_refl _) hb1)); (try (have y1 := fr5_freshE (Nat.le_refl _) hb1))) | (clear t2; go_at_call 22; refine (toMarkA _ _ _).mono ?_; rintro e w2 ⟨_, rfl, rfl, hb2⟩; have HBl2 := Bel.step (And.right (And.right (And.right (And.right (And.right (And.right (And.right (And.right (And.right (And.right (And.right (And.right (And.right (And.right (by assumption))))))))))))))) hb2; (try (have y1 := y1.keep hb2)); (try (have y2 := fr5_fresh HBl1.out.size hb2)); (try (have y2 := fr5_freshD HBl1.out.size hb2)); (try (have y2 := fr5_freshE HBl1.out.size hb2))) | (go_at_call 22; refine (toMarkA _ _ _).mono ?_; rintro e w3 ⟨_, rfl, rfl, hb3⟩; have HBl3 := Bel.step (And.right (And.right (And.right (And.right (And.right (And.right (And.right (And.right (And.right (And.right (And.right (And.right (And.right (And.right (by assumption))))))))))))))) hb3; (try (have y1 := y1.keep hb3)); (try (have y2 := y2.keep hb3)); (try (have y3 := fr5_fresh HBl2.out.size hb3)); (try (have y3 := fr5_freshD HBl2.out.size hb3)); (try (have y3 := fr5_freshE HBl2.out.size hb3))) | (go_at_call 23; refine (Hi _).mono ?_; rw [hV]; rintro e w4 ⟨_, rfl, rfl, hb4⟩; have HBl4 := Bel.step (And.right (And.right (And.right (And.right (And.right (And.right (And.right (And.right (And.right (And.right (And.right (And.right (And.right (And.right (by assumption))))))))))))))) hb4; (try (have y1 := y1.keep hb4)); (try (have y2 := y2.keep hb4)); (try (have y3 := y3.keep hb4)); (try (have y4 := fr5_fresh HBl3.out.size hb4)); (try (have y4 := fr5_freshD HBl3.out.size hb4)); (try (have y4 := fr5_freshE HBl3.out.size hb4)); (try (obtain ⟨lo1, hi1, ya1, yb1, yc1, yd1, ye1, yf1⟩ := y1)); (try (obtain ⟨lo2, hi2, ya2, yb2, yc2, yd2, ye2, yf2⟩ := y2)); (try (obtain ⟨lo3, hi3, ya3, yb3, yc3, yd3, ye3, yf3⟩ := y3)); (try (obtain ⟨lo4, hi4, ya4, yb4, yc4, yd4, ye4, yf4⟩ := y4))))
      all_goals
        go_wp2_with fail
        go_meet
        exact ⟨_, rfl, rfl, rfl, (by simp [go_sem, *]), (by simp [go_sem, *]), (by simp [go_sem, *]), (by simp [go_sem, *]), (by simp [go_sem, *]), (by first | assumption | exact HBl4.out.size), (by simp [*]), (by repeat' (first | (with_reducible exact Bel.refl _) | (with_reducible assumption) | (with_reducible exact And.right (And.right (And.right (And.right (And.right (And.right (And.right (And.right (And.right (And.right (And.right (And.right (And.right (And.right (by assumption))))))))))))))) | (with_reducible refine Bel.drew ?_) | (with_reducible refine Bel.alloc ?_) | (with_reducible refine Bel.set ?_ ?_) | (simp; done) | (simp; omega) | omega))⟩
    case rest =>
      obtain ⟨g1, rfl, rfl, rfl, f0, f1, f2, f3, f4, lo1, hi1, HB1⟩ := hcut
      generalize wc = we at *
      have hK3 : ∀ W, Bel we W → W.cell? ⟨g0, 0, none⟩ = some (.int .i16 A) ∧ W.cell? ⟨g0, 1, none⟩ = some (.int .i16 B) ∧ W.cell? ⟨g0, 2, none⟩ = some (.int .i16 C) ∧ W.cell? ⟨g0, 3, none⟩ = some (.int .i16 D) ∧ W.cell? ⟨g0, 4, none⟩ = some (.int .i8 E) ∧ W.cell? ⟨g1, 0, none⟩ = some (.int .i16 A) ∧ W.cell? ⟨g1, 1, none⟩ = some (.int .i16 B) ∧ W.cell? ⟨g1, 2, none⟩ = some (.int .i16 C) ∧ W.cell? ⟨g1, 3, none⟩ = some (.int .i16 D) ∧ W.cell? ⟨g1, 4, none⟩ = some (.int .i8 E) ∧ Bel we W := fun W hW => by
        obtain ⟨k0, k1, k2, k3, k4, k5, k6, k7, k8, k9, k10, k11, k12, k13, _⟩ := hK2 W (HB1.trans hW)
        obtain ⟨hcc, _⟩ := bcell hW.out
        exact ⟨k9, k10, k11, k12, k13, by rw [hcc _ _ hi1]; exact f0, by rw [hcc _ _ hi1]; exact f1, by rw [hcc _ _ hi1]; exact f2, by rw [hcc _ _ hi1]; exact f3, by rw [hcc _ _ hi1]; exact f4, hW⟩
      obtain ⟨j0, j1, j2, j3, j4, j5, j6, j7, j8, j9, _⟩ := hK3 we (Bel.refl _)
      have hi2 : g0 < we.heap.size := Nat.lt_of_lt_of_le hi0 HB1.out.size
      clear hK hK2 hK3 e0 e1 e2 e3 e4
      go_wp2_with (first | (go_at_call 24; refine (eqStrokeA _ _ _ _ _ _).mono ?_; rintro e w4 ⟨_, rfl, rfl, hb4⟩; have HBl4 := Bel.step (Bel.refl we) hb4; obtain ⟨hcb4, hfb4⟩ := bcell hb4))

      all_goals
        simp [bodyPost, results, Try.results6, go_sem]
        exact ⟨_, rfl, rfl, hL _ ((HB0.trans HB1).trans (by first | assumption | exact Bel.refl _))⟩


set_option maxRecDepth 100000 in
theorem lifted (os : Os) (started : os.Started) (H : Type) (enc : TypeId × Value → H) :
    ReturnsInHanded {} Try.checked os 6 .any (Rows.fnExactClipStrokeSpec.pre6 enc Try.prog Try.f6 Rows.fnExactClipStrokeRow.domain false) (Rows.fnExactClipStrokeSpec.post enc Try.prog Try.f6 false true false false) := by
  refine returnsInHanded_of_change (C := Try.checked) own started (by kernel_rfl) Try.func6
    (ChangeSpec.witness6 (enc := enc) (C := Try.checked) false ⟨#[], #[st 0 0 0 0 0, mk 0 0, mk 0 0], []⟩ 8 (by kernel_rfl) (by kernel_rfl) (by kernel_rfl) (by kernel_rfl)) ?_
  intro W base args ds gs before hval0 hW hcnd _
  have hval : ∀ (j : Nat) t v, Try.f6.params[j]? = some t → args[j]? = some v → Value.okWide Try.prog W .any base t v := hval0
  have hW' := hW
  obtain ⟨p, q, hA0, hV, rfl, hfz, hnd⟩ := hW
  have hA : DataW.TrodAll enc Try.prog W 0 (fun _ => true) true Try.f6.params.toList args.toList ds p := hA0
  rw [Try.params6] at hA hval
  obtain ⟨v0, vs0, d0, ds0, p0, q0, hargs, rfl, rfl, h0, r0⟩ := trodAll_cons hA
  obtain ⟨v1, vs1, d1, ds1, p1, q1, rfl, rfl, rfl, h1, r1⟩ := trodAll_cons r0
  obtain ⟨v2, vs2, d2, ds2, p2, q2, rfl, rfl, rfl, h2, r2⟩ := trodAll_cons r1
  obtain ⟨rfl, rfl, rfl⟩ := trodAll_nil r2
  obtain rfl : args = #[v0, v1, v2] := by cases args; simp_all
  obtain ⟨rfl, rfl⟩ := trodVars_none hV
  have k0 := h0
  have lt0 := lt_of_trod h0
  obtain ⟨x0_0, x0_1, x0_2, x0_3, x0_4, rfl, w0_0, w0_1, w0_2, w0_3, w0_4⟩ := open_stroke (hval 0 26 v0 rfl rfl) h0
  have k1 := h1
  have lt1 := lt_of_trod h1
  obtain ⟨x1_0, x1_1, rfl, w1_0, w1_1⟩ := open_mark Try.underlying23 Try.underlying22 (by kernel_rfl) (by kernel_rfl) (hval 1 23 v1 rfl rfl) h1
  have k2 := h2
  have lt2 := lt_of_trod h2
  obtain ⟨x2_0, x2_1, rfl, w2_0, w2_1⟩ := open_mark Try.underlying23 Try.underlying22 (by kernel_rfl) (by kernel_rfl) (hval 2 23 v2 rfl rfl) h2
  clear hA0 hval0
  refine (walk x0_0 x0_1 x0_2 x0_3 x0_4 x1_0 x1_1 x2_0 x2_1 w0_0 w0_1 w0_2 w0_3 w0_4 w1_0 w1_1 w2_0 w2_1 W).mono fun e W' hq => ?_
  obtain ⟨v, rfl, rfl, bel⟩ := hq
  exact ⟨_, rfl, _, _, _, [], _, [], hW', trodAll_mk1 (shut_bool Try.underlying4 _), (trodAll_cons_mk (Below.trod laidOut (by kernel_rfl) (of_decide_eq_true (by kernel_rfl)) k0 bel lt0) (trodAll_cons_mk (Below.trod laidOut (by kernel_rfl) (of_decide_eq_true (by kernel_rfl)) k1 bel lt1) (trodAll_cons_mk (Below.trod laidOut (by kernel_rfl) (of_decide_eq_true (by kernel_rfl)) k2 bel lt2) trodAll_mk0))), rfl, bel.frame _, fun h => by cases h⟩

theorem over : Rows.fnExactClipStrokeRow.holds Try.pinned (OpenSpec.ofChange Rows.fnExactClipStrokeSpec) :=
  OpenClaim.holds_of_wide 6 Try.f6 rfl rfl rfl rfl rfl rfl rfl ⟨rfl, rfl, rfl, rfl, rfl⟩ rfl rfl rfl rfl rfl (by kernel_rfl) Try.func6 (by kernel_rfl)
    (of_decide_eq_true (by kernel_rfl)) (by unfold Func.isWrapper; rw [if_neg (of_decide_eq_false (by kernel_rfl))]; exact ⟨rfl, rfl⟩)
    (fun os started H enc _ => lifted os started H enc)

theorem proved : Rows.FnExactClipStrokeSaid := over

end Go.Proofs.Ytbkcoiojcjmmlaa.lawExactClipStroke
