/- Contracts: solids compared (the model's side); a solid as an argument of a law. -/
import Derived.Test.YtpainjecdolgiaaLstV
import Derived.Test.YtpainjecdolgiaaMrkO
import Derived.Deep.RegionHeld3
import Derived.BigQuiet
import Derived.Deep.QuietTactic
namespace Go.Proofs.Ytpainjecdolgiaa
--## d
open Go.ChangeShapes Go.WideShapes Go.ChangeAt Go.RowKit Go.Flo Go.Mem
set_option linter.unusedSimpArgs false
set_option linter.unusedVariables false
set_option maxRecDepth 20000
--## d
theorem Bel.tr {a b c : World} (h : Bel a b) (g : Bel b c) : Bel a c := Bel.step h g.out
--## d
set_option maxHeartbeats 8000000 in
theorem l03SameS (p q : Addr) (v u v2 u2 : Value) (ts rs : List V3n) (fs gs : List (List Int)) (w : World) (hp0 : w.cell? p = some v) (hp1 : w.cell? ⟨p.block, p.off + 1, none⟩ = some u) (hq0 : w.cell? q = some v2) (hq1 : w.cell? ⟨q.block, q.off + 1, none⟩ = some u2) (hpb : p.block < w.heap.size) (hqb : q.block < w.heap.size) (hP : Rls 3 w v (rT ts)) (hQ : Fls w u fs) (hP2 : Rls 3 w v2 (rT rs)) (hQ2 : Fls w u2 gs) (hn : ts.length ≤ 1048576) (hf : okF fs) :
    Calls Try.prog 40 #[.pointer (some p), .pointer (some q)] w (Gives (isB (sameTs ts rs && decide (fs = gs))) w) := by
  have A : Aside (Rls 3 w v (rT ts) ∧ Fls w u fs ∧ Rls 3 w v2 (rT rs) ∧ Fls w u2 gs ∧ okF fs ∧ ts.length ≤ 1048576) := ⟨hP, hQ, hP2, hQ2, hf, hn⟩
  obtain ⟨a1, c1, rfl, _⟩ := hP
  obtain ⟨a2, c2, rfl, _⟩ := hP2
  obtain ⟨a3, c3, rfl⟩ := hQ.slice
  obtain ⟨a4, c4, rfl⟩ := hQ2.slice
  rw [rT_len] at *
  clear hQ hQ2 hf
  have hK0 : ∀ W, Bel w W → W.cell? p = some (.slice a1 ts.length c1) ∧ W.cell? ⟨p.block, p.off + 1, none⟩ = some (.slice a3 fs.length c3) ∧ W.cell? q = some (.slice a2 rs.length c2) ∧ W.cell? ⟨q.block, q.off + 1, none⟩ = some (.slice a4 gs.length c4) ∧ Bel w W := fun W hW =>
    ⟨by rw [hW.out.cell hpb]; exact hp0, by rw [hW.out.cell (by exact hpb)]; exact hp1, by rw [hW.out.cell hqb]; exact hq0, by rw [hW.out.cell (by exact hqb)]; exact hq1, hW⟩
  have K0 : Aside (∀ W, Bel w W → W.cell? p = some (.slice a1 ts.length c1) ∧ W.cell? ⟨p.block, p.off + 1, none⟩ = some (.slice a3 fs.length c3) ∧ W.cell? q = some (.slice a2 rs.length c2) ∧ W.cell? ⟨q.block, q.off + 1, none⟩ = some (.slice a4 gs.length c4) ∧ Bel w W) := hK0
  clear hp0 hp1 hq0 hq1
  by_cases hl : ts.length = rs.length
  · by_cases hl2 : fs.length = gs.length
    · have e1 : ((ts.length : Int) != (rs.length : Int)) = false := by simp; omega
      have e2 : ((fs.length : Int) != (gs.length : Int)) = false := by simp; omega
      go_enter Try.func40, Try.ntmps40
      go_wp2_with fail
      go_region_held3 (fun W => W.cell? p = some (.slice a1 ts.length c1) ∧ W.cell? ⟨p.block, p.off + 1, none⟩ = some (.slice a3 fs.length c3) ∧ W.cell? q = some (.slice a2 rs.length c2) ∧ W.cell? ⟨q.block, q.off + 1, none⟩ = some (.slice a4 gs.length c4) ∧ Bel w W) (first | (with_reducible assumption) | (refine hK0 _ ?_; (repeat' (first | (with_reducible exact Bel.refl _) | (with_reducible assumption) | (with_reducible exact And.right (And.right (And.right (And.right (by assumption))))) | (with_reducible refine Bel.drew ?_))); done) | go_keep) (first | fail)
      all_goals go_wp2_with fail
      have L : Aside (ts.length = rs.length ∧ fs.length = gs.length) := ⟨hl, hl2⟩
      clear e1 e2 hl hl2 hK0
      go_loopg [5] ts.length (fun k s5 wr => ∃ (i : Nat), s5 = .int .i64 i ∧ i + k = ts.length ∧ upT ts rs i = true ∧ Bel w wr)
      · exact ⟨0, rfl, by omega, rfl, by first | assumption | exact And.right (And.right (And.right (And.right (by assumption))))⟩
      · obtain ⟨i, rfl, hik, ht, HB⟩ := hrel
        have B : Aside (i + gk = ts.length ∧ upT ts rs i = true ∧ Bel w wr) := ⟨hik, ht, HB⟩
        by_cases hi : i < ts.length
        · obtain ⟨⟨p0, p1, p2⟩, hz⟩ : ∃ z, ts[i]? = some z := ⟨ts[i], List.getElem?_eq_getElem hi⟩
          obtain ⟨⟨q0, q1, q2⟩, hy⟩ : ∃ y, rs[i]? = some y := ⟨rs[i]'(by have := L.out.1; omega), List.getElem?_eq_getElem _⟩
          obtain ⟨b, c5, x1, hb1, hc1⟩ := (A.out.1.below HB.out).at (rT_get hz)
          obtain ⟨b2, c6, x2, hb2, hc2⟩ := (A.out.2.2.1.below HB.out).at (rT_get hy)
          rw [rT_len] at x1 x2
          cases x1
          cases x2
          have hi' : (i : Int) < (ts.length : Int) := by omega
          have hi2 : (i : Int) < (rs.length : Int) := by have := L.out.1; omega
          have hi0 : (0 : Int) ≤ (i : Int) := Int.natCast_nonneg _
          have C : Aside (ts.getD i (0, 0, 0) = (p0, p1, p2) ∧ rs.getD i (0, 0, 0) = (q0, q1, q2) ∧ i < ts.length) := ⟨getD_of hz, getD_of hy, hi⟩
          have hK6 : ∀ W, Bel wr W → (W.cell? p = some (.slice (some b) ts.length c1) ∧ W.cell? ⟨p.block, p.off + 1, none⟩ = some (.slice a3 fs.length c3) ∧ W.cell? q = some (.slice (some b2) rs.length c2) ∧ W.cell? ⟨q.block, q.off + 1, none⟩ = some (.slice a4 gs.length c4)) ∧ W.cell? (b.add (i * 3)) = some (.float .f32 p0) ∧ W.cell? ⟨(b.add (i * 3)).block, (b.add (i * 3)).off + 1, none⟩ = some (.float .f32 p1) ∧ W.cell? ⟨(b.add (i * 3)).block, (b.add (i * 3)).off + 2, none⟩ = some (.float .f32 p2) ∧ W.cell? (b2.add (i * 3)) = some (.float .f32 q0) ∧ W.cell? ⟨(b2.add (i * 3)).block, (b2.add (i * 3)).off + 1, none⟩ = some (.float .f32 q1) ∧ W.cell? ⟨(b2.add (i * 3)).block, (b2.add (i * 3)).off + 2, none⟩ = some (.float .f32 q2) ∧ Bel wr W := fun W hW => by
            obtain ⟨h1, h2, h3, h4, _⟩ := K0.out W (HB.tr hW)
            exact ⟨⟨h1, h2, h3, h4⟩, cells_later hW.out hb1 hc1 0 _ rfl, cells_later hW.out hb1 hc1 1 _ rfl, cells_later hW.out hb1 hc1 2 _ rfl, cells_later hW.out hb2 hc2 0 _ rfl, cells_later hW.out hb2 hc2 1 _ rfl, cells_later hW.out hb2 hc2 2 _ rfl, hW⟩
          obtain ⟨z1, z2, z3, z4, _⟩ := K0.out wr HB
          clear hz hy hik ht HB hb1 hb2 hc1 hc2
          have HS : Aside (∀ W, Calls Try.prog 49 #[.agg #[.float .f32 p0, .float .f32 p1, .float .f32 p2], .agg #[.float .f32 q0, .float .f32 q1, .float .f32 q2]] W (Gives (isB (sameT (p0, p1, p2) (q0, q1, q2))) W)) := SamePointS p0 p1 p2 q0 q1 q2
          cases hq : sameT (p0, p1, p2) (q0, q1, q2)
          all_goals
            have HQ : Aside (sameT (p0, p1, p2) (q0, q1, q2) = _) := hq
            rw [hq] at HS
            clear hq
            go_wp2_with fail
            go_region_held3 (fun W => (W.cell? p = some (.slice (some b) ts.length c1) ∧ W.cell? ⟨p.block, p.off + 1, none⟩ = some (.slice a3 fs.length c3) ∧ W.cell? q = some (.slice (some b2) rs.length c2) ∧ W.cell? ⟨q.block, q.off + 1, none⟩ = some (.slice a4 gs.length c4)) ∧ W.cell? (b.add (i * 3)) = some (.float .f32 p0) ∧ W.cell? ⟨(b.add (i * 3)).block, (b.add (i * 3)).off + 1, none⟩ = some (.float .f32 p1) ∧ W.cell? ⟨(b.add (i * 3)).block, (b.add (i * 3)).off + 2, none⟩ = some (.float .f32 p2) ∧ W.cell? (b2.add (i * 3)) = some (.float .f32 q0) ∧ W.cell? ⟨(b2.add (i * 3)).block, (b2.add (i * 3)).off + 1, none⟩ = some (.float .f32 q1) ∧ W.cell? ⟨(b2.add (i * 3)).block, (b2.add (i * 3)).off + 2, none⟩ = some (.float .f32 q2) ∧ Bel wr W) (first | (with_reducible assumption) | (refine hK6 _ ?_; (repeat' (first | (with_reducible exact Bel.refl _) | (with_reducible assumption) | (with_reducible exact And.right (And.right (And.right (And.right (And.right (And.right (And.right (by assumption)))))))) | (with_reducible refine Bel.drew ?_))); done) | go_keep) (first | (go_at_call 49; refine (HS.out _).mono ?_; rintro e w2 ⟨_, rfl, eb, hb⟩; cases eb; have HBl := Bel.step (And.right (And.right (And.right (And.right (And.right (And.right (And.right (by assumption)))))))) hb))
            all_goals go_wp2_with fail
          · obtain ⟨hik, ht, HB⟩ := B.out
            all_goals
              simp [bodyPost, results, Try.results40, go_sem]
              exact ⟨_, rfl, by rw [sameTs_eq L.out.1, upT_bad C.out.2.2 C.out.1 C.out.2.1 HQ.out]; rfl, (HB.tr HBl).out⟩
          · obtain ⟨hik, ht, HB⟩ := B.out
            go_roundg (gk - 1)
            · refine ⟨i + 1, ?_, by omega, ?_, HB.tr HBl⟩
              · first
                  | (congr 1; done)
                  | (congr 1; unfold wrap64; omega)
              · rw [upT_step C.out.2.2 C.out.1 C.out.2.1 ht]; exact HQ.out
            · omega
        · have hi' : ¬ ((i : Int) < (ts.length : Int)) := by omega
          have hie : i = ts.length := by omega
          have HT : Aside (sameTs ts rs = true) := by
            show sameTs ts rs = true
            rw [sameTs_eq L.out.1, ← hie]; exact ht
          obtain ⟨z1, z2, z3, z4, _⟩ := K0.out wr HB
          clear hie hik ht B
          go_wp2_with fail
          clear hi hi' z1 z2 z3 z4
          obtain ⟨wo, rfl⟩ : ∃ q : World, q = wr := ⟨_, rfl⟩
          have hfl := A.out.2.2.2.2.1.1
          go_loopg [6] fs.length (fun k s6 wr => ∃ (i : Nat), s6 = .int .i64 i ∧ i + k = fs.length ∧ fs.take i = gs.take i ∧ Bel w wr)
          · exact ⟨0, rfl, by omega, rfl, HB⟩
          · clear HB
            obtain ⟨i, rfl, hik, ht, HB⟩ := hrel
            have B : Aside (i + gk = fs.length ∧ fs.take i = gs.take i ∧ Bel w wr) := ⟨hik, ht, HB⟩
            by_cases hi : i < fs.length
            · obtain ⟨z, hz⟩ : ∃ z, fs[i]? = some z := ⟨fs[i], List.getElem?_eq_getElem hi⟩
              obtain ⟨y, hy⟩ : ∃ y, gs[i]? = some y := ⟨gs[i]'(by have := L.out.2; omega), List.getElem?_eq_getElem _⟩
              obtain ⟨b, c5, y1, x1, hb1, hc1, hR1⟩ := (A.out.2.1.below HB.out).at hz
              obtain ⟨b2, c6, y2, x2, hb2, hc2, hR2⟩ := (A.out.2.2.2.1.below HB.out).at hy
              cases x1
              cases x2
              have R1 : Aside (Rls 1 wr y1 (rI z) ∧ Rls 1 wr y2 (rI y) ∧ z.length ≤ 1048576) := ⟨hR1, hR2, A.out.2.2.2.2.1.2 z (List.mem_of_getElem? hz)⟩
              obtain ⟨d1, g1, rfl, _⟩ := hR1
              obtain ⟨d2, g2, rfl, _⟩ := hR2
              rw [rI_len, rI_len] at *
              have hi' : (i : Int) < (fs.length : Int) := by omega
              have hi2 : (i : Int) < (gs.length : Int) := by have := L.out.2; omega
              have hi0 : (0 : Int) ≤ (i : Int) := Int.natCast_nonneg _
              have C : Aside (fs[i]? = some z ∧ gs[i]? = some y) := ⟨hz, hy⟩
              have hK6 : ∀ W, Bel wr W → (W.cell? p = some (.slice a1 ts.length c1) ∧ W.cell? ⟨p.block, p.off + 1, none⟩ = some (.slice (some b) fs.length c3) ∧ W.cell? q = some (.slice a2 rs.length c2) ∧ W.cell? ⟨q.block, q.off + 1, none⟩ = some (.slice (some b2) gs.length c4)) ∧ W.cell? (b.add i) = some (.slice d1 z.length g1) ∧ W.cell? (b2.add i) = some (.slice d2 y.length g2) ∧ Bel wr W := fun W hW => by
                obtain ⟨h1, h2, h3, h4, _⟩ := K0.out W (HB.tr hW)
                exact ⟨⟨h1, h2, h3, h4⟩, by rw [hW.out.cell hb1]; exact hc1, by rw [hW.out.cell hb2]; exact hc2, hW⟩
              have K6 : Aside (∀ W, Bel wr W → (W.cell? p = some (.slice a1 ts.length c1) ∧ W.cell? ⟨p.block, p.off + 1, none⟩ = some (.slice (some b) fs.length c3) ∧ W.cell? q = some (.slice a2 rs.length c2) ∧ W.cell? ⟨q.block, q.off + 1, none⟩ = some (.slice (some b2) gs.length c4)) ∧ W.cell? (b.add i) = some (.slice d1 z.length g1) ∧ W.cell? (b2.add i) = some (.slice d2 y.length g2) ∧ Bel wr W) := hK6
              obtain ⟨z1, z2, z3, z4, _⟩ := K0.out wr HB
              clear hz hy hik ht HB hb1 hb2 hc1 hc2
              by_cases hzy : z.length = y.length
              · have e3 : ((z.length : Int) != (y.length : Int)) = false := by simp; omega
                go_wp2_with fail
                go_region_held3 (fun W => (W.cell? p = some (.slice a1 ts.length c1) ∧ W.cell? ⟨p.block, p.off + 1, none⟩ = some (.slice (some b) fs.length c3) ∧ W.cell? q = some (.slice a2 rs.length c2) ∧ W.cell? ⟨q.block, q.off + 1, none⟩ = some (.slice (some b2) gs.length c4)) ∧ W.cell? (b.add i) = some (.slice d1 z.length g1) ∧ W.cell? (b2.add i) = some (.slice d2 y.length g2) ∧ Bel wr W) (first | (with_reducible assumption) | (refine hK6 _ ?_; (repeat' (first | (with_reducible exact Bel.refl _) | (with_reducible assumption) | (with_reducible exact And.right (And.right (And.right (by assumption)))) | (with_reducible refine Bel.drew ?_))); done) | go_keep) (first | fail)
                all_goals go_wp2_with fail
                obtain ⟨gko, rfl⟩ : ∃ q : Nat, q = gk := ⟨_, rfl⟩
                obtain ⟨wo2, rfl⟩ : ∃ q : World, q = wr := ⟨_, rfl⟩
                have HZ : Aside (z.length = y.length ∧ z.length ≤ 1048576) := ⟨hzy, R1.out.2.2⟩
                have hzl := R1.out.2.2
                clear e3 hzy z1 z2 z3 z4 hK6
                go_loopg [7] z.length (fun k s7 wr => ∃ (j : Nat), s7 = .int .i64 j ∧ j + k = z.length ∧ z.take j = y.take j ∧ Bel wo2 wr)
                · exact ⟨0, rfl, by omega, rfl, by first | assumption | exact And.right (And.right (And.right (by assumption)))⟩
                · obtain ⟨j, rfl, hjk, hr, HB⟩ := hrel
                  have B3 : Aside (j + gk = z.length ∧ z.take j = y.take j ∧ Bel wo2 wr) := ⟨hjk, hr, HB⟩
                  obtain ⟨⟨z1, z2, z3, z4⟩, z5, z6, _⟩ := K6.out wr HB
                  by_cases hj : j < z.length
                  · obtain ⟨m, hm⟩ : ∃ m, z[j]? = some m := ⟨z[j], List.getElem?_eq_getElem hj⟩
                    obtain ⟨o, ho⟩ : ∃ o, y[j]? = some o := ⟨y[j]'(by have := HZ.out.1; omega), List.getElem?_eq_getElem _⟩
                    obtain ⟨b3, c7, x3, hb3, hc3⟩ := (R1.out.1.below HB.out).at (rI_get hm)
                    obtain ⟨b4, c8, x4, hb4, hc4⟩ := (R1.out.2.1.below HB.out).at (rI_get ho)
                    rw [rI_len] at x3 x4
                    cases x3
                    cases x4
                    rw [Nat.mul_one] at hb3 hb4
                    have hj' : (j : Int) < (z.length : Int) := by omega
                    have hj2 : (j : Int) < (y.length : Int) := by have := HZ.out.1; omega
                    have hj0 : (0 : Int) ≤ (j : Int) := Int.natCast_nonneg _
                    have P1 : Aside (z[j]? = some m ∧ y[j]? = some o) := ⟨hm, ho⟩
                    have x5 := hc3 0 _ rfl
                    have x6 := hc4 0 _ rfl
                    rw [Nat.mul_one] at x5 x6
                    have hK8 : ∀ W, Bel wr W → (W.cell? p = some (.slice a1 ts.length c1) ∧ W.cell? ⟨p.block, p.off + 1, none⟩ = some (.slice (some b) fs.length c3) ∧ W.cell? q = some (.slice a2 rs.length c2) ∧ W.cell? ⟨q.block, q.off + 1, none⟩ = some (.slice (some b2) gs.length c4)) ∧ W.cell? (b.add i) = some (.slice (some b3) z.length g1) ∧ W.cell? (b2.add i) = some (.slice (some b4) y.length g2) ∧ W.cell? (b3.add j) = some (.int .i16 m) ∧ W.cell? (b4.add j) = some (.int .i16 o) ∧ Bel wr W := fun W hW => by
                      obtain ⟨h1, h2, h3, _⟩ := K6.out W (HB.tr hW)
                      exact ⟨h1, h2, h3, by rw [hW.out.cell hb3]; exact x5, by rw [hW.out.cell hb4]; exact x6, hW⟩
                    clear hm ho hjk hr HB hb3 hb4 hc3 hc4 x5 x6
                    by_cases hmo : m = o
                    · have e5 : (m != o) = false := by simp [hmo]
                      have HMO : Aside (m = o) := hmo
                      clear hmo
                      go_wp2_with fail
                      go_region_held3 (fun W => (W.cell? p = some (.slice a1 ts.length c1) ∧ W.cell? ⟨p.block, p.off + 1, none⟩ = some (.slice (some b) fs.length c3) ∧ W.cell? q = some (.slice a2 rs.length c2) ∧ W.cell? ⟨q.block, q.off + 1, none⟩ = some (.slice (some b2) gs.length c4)) ∧ W.cell? (b.add i) = some (.slice (some b3) z.length g1) ∧ W.cell? (b2.add i) = some (.slice (some b4) y.length g2) ∧ W.cell? (b3.add j) = some (.int .i16 m) ∧ W.cell? (b4.add j) = some (.int .i16 o) ∧ Bel wr W) (first | (with_reducible assumption) | (refine hK8 _ ?_; (repeat' (first | (with_reducible exact Bel.refl _) | (with_reducible assumption) | (with_reducible exact And.right (And.right (And.right (And.right (And.right (by assumption)))))) | (with_reducible refine Bel.drew ?_))); done) | go_keep) (first | fail)
                      all_goals go_wp2_with fail
                      obtain ⟨hjk, hr, HB⟩ := B3.out
                      go_roundg (gk - 1)
                      · refine ⟨j + 1, ?_, by omega, (take_eq_step P1.out.1 P1.out.2 hr).2 HMO.out, HB.tr (And.right (And.right (And.right (And.right (And.right (by assumption))))))⟩
                        first
                          | (congr 1; done)
                          | (congr 1; unfold wrap64; omega)
                      · omega
                    · have e5 : (m != o) = true := by simp [hmo]
                      have HMO : Aside (¬ m = o) := hmo
                      clear hmo
                      go_wp2_with fail
                      go_region_held3 (fun W => (W.cell? p = some (.slice a1 ts.length c1) ∧ W.cell? ⟨p.block, p.off + 1, none⟩ = some (.slice (some b) fs.length c3) ∧ W.cell? q = some (.slice a2 rs.length c2) ∧ W.cell? ⟨q.block, q.off + 1, none⟩ = some (.slice (some b2) gs.length c4)) ∧ W.cell? (b.add i) = some (.slice (some b3) z.length g1) ∧ W.cell? (b2.add i) = some (.slice (some b4) y.length g2) ∧ W.cell? (b3.add j) = some (.int .i16 m) ∧ W.cell? (b4.add j) = some (.int .i16 o) ∧ Bel wr W) (first | (with_reducible assumption) | (refine hK8 _ ?_; (repeat' (first | (with_reducible exact Bel.refl _) | (with_reducible assumption) | (with_reducible exact And.right (And.right (And.right (And.right (And.right (by assumption)))))) | (with_reducible refine Bel.drew ?_))); done) | go_keep) (first | fail)
                      all_goals go_wp2_with fail
                      obtain ⟨hjk, hr, HB⟩ := B3.out
                      have hne2 : fs ≠ gs := fun e => HMO.out (by
                        have h1 : some z = some y := by rw [← C.out.1, ← C.out.2, e]
                        cases h1
                        exact Option.some.inj (P1.out.1.symm.trans P1.out.2))
                      simp [bodyPost, results, Try.results40, go_sem]
                      exact ⟨_, rfl, by rw [decide_eq_false hne2]; simp [isB], (((B.out.2.2).tr HB).tr (And.right (And.right (And.right (And.right (And.right (by assumption))))))).out⟩
                  · have hj' : ¬ ((j : Int) < (z.length : Int)) := by omega
                    have hje : j = z.length := by omega
                    go_wp2_with fail
                    have hzy : z = y := by
                      have h5 := HZ.out.1
                      rw [hje, List.take_of_length_le (Nat.le_refl _), List.take_of_length_le (by omega)] at hr
                      exact hr
                    obtain ⟨hik, ht, HB2⟩ := B.out
                    go_roundg (gko - 1)
                    · refine ⟨i + 1, ?_, by omega, (take_eqA C.out.1 C.out.2 ht).2 hzy, HB2.tr HB⟩
                      first
                        | (congr 1; done)
                        | (congr 1; unfold wrap64; omega)
                    · omega
              · have e3 : ((z.length : Int) != (y.length : Int)) = true := by simp; omega
                have hne2 : fs ≠ gs := fun e => hzy (by
                  have h1 : some z = some y := by rw [← C.out.1, ← C.out.2, e]
                  cases h1
                  rfl)
                have HNE : Aside (fs ≠ gs) := hne2
                clear hne2
                go_wp2_with fail
                go_region_held3 (fun W => (W.cell? p = some (.slice a1 ts.length c1) ∧ W.cell? ⟨p.block, p.off + 1, none⟩ = some (.slice (some b) fs.length c3) ∧ W.cell? q = some (.slice a2 rs.length c2) ∧ W.cell? ⟨q.block, q.off + 1, none⟩ = some (.slice (some b2) gs.length c4)) ∧ W.cell? (b.add i) = some (.slice d1 z.length g1) ∧ W.cell? (b2.add i) = some (.slice d2 y.length g2) ∧ Bel wr W) (first | (with_reducible assumption) | (refine hK6 _ ?_; (repeat' (first | (with_reducible exact Bel.refl _) | (with_reducible assumption) | (with_reducible exact And.right (And.right (And.right (by assumption)))) | (with_reducible refine Bel.drew ?_))); done) | go_keep) (first | fail)
                all_goals go_wp2_with fail
                all_goals
                  simp [bodyPost, results, Try.results40, go_sem]
                  exact ⟨_, rfl, by rw [decide_eq_false HNE.out]; simp [isB], ((B.out.2.2).tr (by first | assumption | exact And.right (And.right (And.right (by assumption))))).out⟩
            · have hi' : ¬ ((i : Int) < (fs.length : Int)) := by omega
              have hie : i = fs.length := by omega
              have he : fs = gs := by
                have h5 := L.out.2
                rw [hie, List.take_of_length_le (Nat.le_refl _), List.take_of_length_le (by omega)] at ht
                exact ht
              obtain ⟨z1, z2, z3, z4, _⟩ := K0.out wr HB
              go_wp2_with fail
              simp [bodyPost, results, Try.results40, go_sem]
              exact ⟨_, rfl, by first | exact rfl | (rw [HT.out, decide_eq_true he]; exact rfl) | (rw [HT.out]; simp [isB, he]; done), HB.out⟩
    · have e1 : ((ts.length : Int) != (rs.length : Int)) = false := by simp; omega
      have e2 : ((fs.length : Int) != (gs.length : Int)) = true := by simp; omega
      have L2 : Aside (¬ fs.length = gs.length) := hl2
      clear hl hl2
      go_enter Try.func40, Try.ntmps40
      go_wp2_with fail
      go_region_held3 (fun W => W.cell? p = some (.slice a1 ts.length c1) ∧ W.cell? ⟨p.block, p.off + 1, none⟩ = some (.slice a3 fs.length c3) ∧ W.cell? q = some (.slice a2 rs.length c2) ∧ W.cell? ⟨q.block, q.off + 1, none⟩ = some (.slice a4 gs.length c4) ∧ Bel w W) (first | (with_reducible assumption) | (refine hK0 _ ?_; (repeat' (first | (with_reducible exact Bel.refl _) | (with_reducible assumption) | (with_reducible exact And.right (And.right (And.right (And.right (by assumption))))) | (with_reducible refine Bel.drew ?_))); done) | go_keep) (first | fail)
      all_goals go_wp2_with fail
      all_goals
        simp [bodyPost, results, Try.results40, go_sem]
        exact ⟨_, rfl, by rw [show decide (fs = gs) = false from decide_eq_false (fun h => L2.out (by rw [h]))]; simp [isB], Bel.out (by first | assumption | exact And.right (And.right (And.right (And.right (by assumption)))))⟩
  · have e1 : ((ts.length : Int) != (rs.length : Int)) = true := by simp; omega
    have L2 : Aside (¬ ts.length = rs.length) := hl
    clear hl
    go_enter Try.func40, Try.ntmps40
    go_wp2_with fail
    obtain ⟨z1, z2, z3, z4, _⟩ := hK0 w (Bel.refl _)
    go_quiet (fail)
    all_goals go_wp2_with fail
    all_goals
      simp [bodyPost, results, Try.results40, go_sem]
      exact ⟨_, rfl, by rw [sameTs_len L2.out]; rfl, (by ((try simp only [Hid] at *); repeat' (first | (with_reducible exact Below.refl _ _) | (with_reducible assumption) | (with_reducible refine below_drewN ?_ _) | (with_reducible refine Below.drew ?_) | (with_reducible refine below_alloc ?_) | (with_reducible refine below_set ?_ ?_) | (refine below_step (by with_reducible assumption) ?_) | (simp; done) | (simp; omega) | omega)))⟩
--## d
/-- an argument's cell that is a slice, read: it is a slice of rows; what a row's reading gives is kept -/
theorem open_rowsC {H : Type} {enc : TypeId × Value → H} {P : Program} {w : World} {base : Nat} {spare : Nat → Bool} {held : Bool} {t e : TypeId} {c : Value} {fuel : Nat} {d : DataW H × List MemPlace} {n : Nat} (R : List Value → Prop) (ht : P.underlying t = some (.slice e)) (hce : P.cellsOf e = n) (hn : 0 < n)
    (h : DataW.trod enc P w base spare held fuel t [c] = some d)
    (hR : ∀ cs y m, cs.length = n → DataW.trod enc P w base spare held m e cs = some y → R cs) : ∃ rs : List (List Value), Rls n w c rs ∧ (∀ r ∈ rs, r.length = n ∧ R r) ∧ rs.length ≤ maxLen := by
  rcases DataW.trod_slice ht h with ⟨h1, _⟩ | ⟨a', len', cap', elems, rest, m, _, h1, _, hb, hl, hm, hlen, hel, _, _⟩
  · have h1' : c = .slice none 0 0 := by simpa using h1
    subst h1'
    exact ⟨[], ⟨none, 0, rfl, fun j p hp => (by cases hp)⟩, fun r hr => (by cases hr), by decide⟩
  · have h1' : c = .slice (some a') len' cap' := by simpa using h1
    subst h1'
    have each : ∀ i, i < len' → ∃ q : List Value, q.length = n ∧ R q ∧ ∀ k x, q[k]? = some x → w.cell? ((a'.add (i * n)).add k) = some x := by
      intro i hi
      have h2 := hel i hi
      rw [List.getElem?_eq_getElem (by omega), hce, Option.bind_eq_some_iff] at h2
      obtain ⟨cs, h3, h4⟩ := h2
      obtain ⟨_, h5, h6⟩ := World.cells?_some h3
      exact ⟨cs, h5, hR cs _ _ h5 h4, fun k x hx => by rw [h6 k (by rw [← h5]; exact (List.getElem?_eq_some_iff.1 hx).1)]; exact hx⟩
    obtain ⟨F, hF⟩ : ∃ F : Nat → List Value, ∀ i, i < len' → (F i).length = n ∧ R (F i) ∧ ∀ k x, (F i)[k]? = some x → w.cell? ((a'.add (i * n)).add k) = some x :=
      ⟨fun i => if hi : i < len' then (each i hi).choose else [], fun i hi => by simp only [dif_pos hi]; exact (each i hi).choose_spec⟩
    refine ⟨(List.range len').map F, ⟨some a', cap', by simp, fun j p hp => ?_⟩, fun r hr => ?_, by simp; omega⟩
    · rw [List.getElem?_map, Option.map_eq_some_iff] at hp
      obtain ⟨j', hj, rfl⟩ := hp
      obtain ⟨hj2, hj3⟩ := List.getElem?_eq_some_iff.1 hj
      simp at hj2 hj3
      subst hj3
      obtain ⟨f1, f2, f3⟩ := hF j hj2
      refine ⟨a', rfl, ?_, f3⟩
      have hx : ∃ x, (F j)[0]? = some x := ⟨(F j)[0], List.getElem?_eq_getElem (by omega)⟩
      obtain ⟨x, hx⟩ := hx
      have := World.block_lt_of_cell? w _ (f3 0 x hx)
      rw [add_block', add_block'] at this; exact this
    · obtain ⟨i, hi, rfl⟩ := List.mem_map.1 hr
      have := hF i (by simpa using hi)
      exact ⟨this.1, this.2.1⟩
--## d
theorem rows_mapS {α : Type} {f : α → List Value} {W : α → Prop} : ∀ {rs : List (List Value)}, (∀ r ∈ rs, ∃ z, r = f z ∧ W z) → ∃ zs : List α, rs = zs.map f ∧ ∀ z ∈ zs, W z
  | [], _ => ⟨[], rfl, fun z hz => (by cases hz)⟩
  | r :: rs, h => by
    obtain ⟨z, hz, hw⟩ := h r (by simp)
    obtain ⟨zs, hzs, hws⟩ := rows_mapS (rs := rs) (fun x hx => h x (by simp [hx]))
    refine ⟨z :: zs, by rw [hz, hzs]; rfl, fun y hy => ?_⟩
    rcases List.mem_cons.1 hy with rfl | hy
    · exact hw
    · exact hws y hy
--## d
section
--## d
variable {H : Type} {enc : TypeId × Value → H} {w : World} {base : Nat} {spare : Nat → Bool} {held : Bool}
--## d
theorem trod_float3 {fuel : Nat} {c0 c1 c2 : Value} {y : DataW H × List MemPlace} (h : DataW.trod enc Try.prog w base spare held fuel 24 [c0, c1, c2] = some y) : ∃ p : V3n, [c0, c1, c2] = [.float .f32 p.1, .float .f32 p.2.1, .float .f32 p.2.2] := by
  cases fuel with
  | zero => simp [DataW.trod] at h
  | succ n =>
    have hce : Try.prog.cellsOf 23 = 1 := by kernel_rfl
    unfold DataW.trod at h
    rw [Try.underlying24] at h
    have r3 : List.range 3 = [0, 1, 2] := rfl
    simp [r3, hce] at h
    obtain ⟨_, h⟩ := h
    cases h0 : DataW.trod enc Try.prog w base spare held n 23 [c0] with
    | none => simp [h0] at h
    | some y0 =>
      cases h1 : DataW.trod enc Try.prog w base spare held n 23 [c1] with
      | none => simp [h0, h1] at h
      | some y1 =>
        cases h2 : DataW.trod enc Try.prog w base spare held n 23 [c2] with
        | none => simp [h0, h1, h2] at h
        | some y2 =>
          obtain ⟨x0, rfl, _⟩ := cell_float Try.underlying23 h0
          obtain ⟨x1, rfl, _⟩ := cell_float Try.underlying23 h1
          obtain ⟨x2, rfl, _⟩ := cell_float Try.underlying23 h2
          exact ⟨(x0, x1, x2), rfl⟩
--## d
theorem open_pointsC {c : Value} {fuel : Nat} {d : DataW H × List MemPlace} (h : DataW.trod enc Try.prog w base spare held fuel 78 [c] = some d) : ∃ ts : List V3n, Rls 3 w c (rT ts) ∧ ts.length ≤ maxLen := by
  obtain ⟨rs, hP, hR, hl⟩ := open_rowsC (fun cs => ∃ z : V3n, cs = [.float .f32 z.1, .float .f32 z.2.1, .float .f32 z.2.2] ∧ True) Try.underlying78 (n := 3) (by kernel_rfl) (by decide) h (fun cs y m hcs ht => by
    match cs, hcs with
    | [c0, c1, c2], _ =>
      obtain ⟨p, hp⟩ := trod_float3 ht
      exact ⟨p, hp, trivial⟩)
  obtain ⟨zs, rfl, _⟩ := rows_mapS (fun r hr => (hR r hr).2)
  exact ⟨zs, hP, by simpa using hl⟩
--## d
theorem open_i16C {c : Value} {fuel : Nat} {d : DataW H × List MemPlace} (h : DataW.trod enc Try.prog w base spare held fuel 25 [c] = some d) : ∃ zs : List Int, Rls 1 w c (rI zs) ∧ (∀ z ∈ zs, I16 z) ∧ zs.length ≤ maxLen := by
  obtain ⟨rs, hP, hR, hl⟩ := open_rowsC (fun cs => ∃ z : Int, cs = [.int .i16 z] ∧ I16 z) Try.underlying25 (n := 1) (by kernel_rfl) (by decide) h (fun cs y m hcs ht => by
    match cs, hcs with
    | [c0], _ =>
      obtain ⟨x0, rfl, g0⟩ := cell_int Try.underlying57 ht
      exact ⟨x0, rfl, i16_wf g0⟩)
  obtain ⟨zs, rfl, hw⟩ := rows_mapS (fun r hr => (hR r hr).2)
  exact ⟨zs, hP, hw, by simpa using hl⟩
--## d
theorem open_facesC {c : Value} {fuel : Nat} {d : DataW H × List MemPlace} (h : DataW.trod enc Try.prog w base spare held fuel 68 [c] = some d) : ∃ fs : List (List Int), Fls w c fs ∧ (∀ z ∈ fs, (∀ x ∈ z, I16 x) ∧ z.length ≤ maxLen) ∧ fs.length ≤ maxLen := by
  obtain ⟨rs, hP, hR, hl⟩ := open_rowsC (fun cs => ∃ z : Value × List Int, cs = [z.1] ∧ Rls 1 w z.1 (rI z.2) ∧ (∀ x ∈ z.2, I16 x) ∧ z.2.length ≤ maxLen) Try.underlying68 (n := 1) (by kernel_rfl) (by decide) h (fun cs y m hcs ht => by
    match cs, hcs with
    | [c0], _ =>
      obtain ⟨zs, h1, h2, h3⟩ := open_i16C ht
      exact ⟨(c0, zs), rfl, h1, h2, h3⟩)
  obtain ⟨zs, rfl, hw⟩ := rows_mapS (fun r hr => (hR r hr).2)
  refine ⟨zs.map Prod.snd, ⟨zs.map Prod.fst, by simp, ?_, ?_⟩, ?_, by simpa using hl⟩
  · rw [List.map_map]; exact hP
  · intro j u z hu hz
    rw [List.getElem?_map, Option.map_eq_some_iff] at hu hz
    obtain ⟨x, hx, rfl⟩ := hu
    obtain ⟨y, hy, rfl⟩ := hz
    obtain rfl : x = y := Option.some.inj (hx.symm.trans hy)
    exact (hw x (List.mem_of_getElem? hx)).1
  · intro z hz
    obtain ⟨x, hx, rfl⟩ := List.mem_map.1 hz
    exact ⟨(hw x hx).2.1, (hw x hx).2.2⟩
--## d
theorem trod_solid {fuel : Nat} {c0 c1 : Value} {y : DataW H × List MemPlace} (h : DataW.trod enc Try.prog w base spare held fuel 80 [c0, c1] = some y) : ∃ (ts : List V3n) (fs : List (List Int)), Rls 3 w c0 (rT ts) ∧ Fls w c1 fs ∧ ts.length ≤ maxLen ∧ fs.length ≤ maxLen ∧ (∀ z ∈ fs, (∀ x ∈ z, I16 x) ∧ z.length ≤ maxLen) := by
  obtain ⟨xs, n, _, _, _, hlen, hx⟩ := DataW.trod_struct Try.underlying80 h
  have t1 : Try.prog.cellsOf 78 = 1 := by kernel_rfl
  have t2 : Try.prog.cellsOf 68 = 1 := by kernel_rfl
  have g0 := hx 0 _ rfl
  obtain ⟨y0, e0⟩ : ∃ y, xs[0]? = some y := ⟨xs[0]'(by rw [hlen]; decide), List.getElem?_eq_getElem _⟩
  rw [e0] at g0
  have z0 : DataW.trod enc Try.prog w base spare held n 78 [c0] = some y0 := by
    simpa [Value.cells, t2, t1] using g0
  have g1 := hx 1 _ rfl
  obtain ⟨y1, e1⟩ : ∃ y, xs[1]? = some y := ⟨xs[1]'(by rw [hlen]; decide), List.getElem?_eq_getElem _⟩
  rw [e1] at g1
  have z1 : DataW.trod enc Try.prog w base spare held n 68 [c1] = some y1 := by
    simpa [Value.cells, t2, t1] using g1
  obtain ⟨ts, hP, hl⟩ := open_pointsC z0
  obtain ⟨fs, hQ, hz, hl2⟩ := open_facesC z1
  exact ⟨ts, fs, hP, hQ, hl, hl2, hz⟩
--## d
theorem arr2s {α : Type} {cs : Array α} (h : cs.size = 2) : ∃ c0 c1, cs = #[c0, c1] := by
  obtain ⟨l⟩ := cs
  match l, h with
  | [c0, c1], _ => exact ⟨c0, c1, rfl⟩
--## d
theorem open_solid {r : Reach} {b0 : Nat} {v : Value} {d : DataW H} {ps : List MemPlace} (hval : Value.okWide Try.prog w r b0 80 v) (hd : DataW.Trod enc Try.prog w base spare held 80 v d ps) :
    ∃ (c0 c1 : Value) (ts : List V3n) (fs : List (List Int)), v = .agg #[c0, c1] ∧ Rls 3 w c0 (rT ts) ∧ Fls w c1 fs ∧ ts.length ≤ maxLen ∧ fs.length ≤ maxLen ∧ (∀ z ∈ fs, (∀ x ∈ z, I16 x) ∧ z.length ≤ maxLen) := by
  simp only [Value.okWide, Try.underlying80] at hval
  obtain ⟨cs, rfl, hsz, _⟩ := hval
  obtain ⟨c0, c1, rfl⟩ := arr2s (hsz.trans (by kernel_rfl))
  obtain ⟨fuel, hf⟩ := hd
  obtain ⟨ts, fs, h⟩ := trod_solid hf
  exact ⟨c0, c1, ts, fs, rfl, h⟩
--## d
end
--## d
end Go.Proofs.Ytpainjecdolgiaa
