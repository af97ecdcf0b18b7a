/- Contracts: the marks of a stroke (the program's side). -/
import Derived.Test.YtbhbdpcefgledaaMrkE
import Derived.Deep.RegionLaw
import Derived.Deep.CutBlock
namespace Go.Proofs.Ytbhbdpcefgledaa
--## d
open Go.RowKit Go.Mem
set_option linter.unusedSimpArgs false
set_option linter.unusedVariables false
set_option maxRecDepth 20000
--## d
@[go_sem] theorem run_max2 {P : Program} {w : World} (ts : Array TypeId) (t : TypeId) (k : IntKind) (a b : Int) : Sem.run P (Builtin.max_ ts t #[.int k a, .int k b]) w = .ok (.int k (maxF a b)) w := rfl
theorem near_m {n m w : Int} {i : Nat} (h0 : 0 ≤ n) (hn : n ≤ 1000) (hi : i < n.toNat + 1) (hm : (if n < 1 then (1 : Int) else n) = m) : 0 < m ∧ m ≤ 1000 ∧ nearF ((i : Int) * w) m = nearF ((i : Int) * w) n := by
  by_cases h : n < 1
  · have hz : n = 0 := by omega
    subst hz
    have hi0 : i = 0 := by simpa using hi
    subst hi0
    simp at hm
    subst hm
    simp [nearF]
  · rw [if_neg h] at hm
    subst hm
    exact ⟨by omega, hn, rfl⟩
--## d
theorem splice3 (cs : List Value) (o : Nat) (a b x y : Value) (h : o + 2 ≤ cs.length) : (splice (splice (splice cs o [a, b]) o [x]) (o + 1) [y]).take (o + 2) = cs.take o ++ [x, y] := by
  apply List.ext_getElem?
  intro j
  by_cases hj : j < o + 2
  · rw [List.getElem?_take_of_lt hj, splice_get _ _ _ _ (by simp [splice_length]; omega), splice_get _ _ _ _ (by simp [splice_length]; omega), splice_get _ _ _ _ (by simpa using h)]
    by_cases h1 : j < o
    · rw [if_neg (by simp; omega), if_neg (by simp; omega), if_neg (by simp; omega), List.getElem?_append_left (by simp; omega), List.getElem?_take_of_lt h1]
    · by_cases h2 : j = o
      · subst h2
        rw [if_neg (by simp only [List.length_cons, List.length_nil]; omega), if_pos (by simp), List.getElem?_append_right (by rw [List.length_take]; omega)]
        simp [Nat.min_eq_left (show j ≤ cs.length by omega)]
      · have h3 : j = o + 1 := by omega
        subst h3
        rw [if_pos (by simp), List.getElem?_append_right (by simp; omega)]
        simp [Nat.min_eq_left (show o ≤ cs.length by omega)]
  · rw [List.getElem?_eq_none (by simp [splice_length]; omega), List.getElem?_eq_none (by simp; omega)]
--## d
theorem Mem.lift {w w0 W : World} {l : Blocks} (h : Mem w0 W [] l) (hb : Below w.heap.size w w0) : Mem w W [] l :=
  ⟨below_step h.below hb, fun _ hx => (by cases hx), fun x hx => (by obtain ⟨h1, h2⟩ := h.new x hx; exact ⟨Nat.le_trans hb.size h1, h2⟩), h.apart⟩
--## d
theorem Mem.joinG {w wr w' : World} {r l : Blocks} {g : Nat} {cs : List Value} (h : Mem w wr r l) (hs : Mem wr w' [] [(g, cs)]) : Mem w w' r (l ++ [(g, cs)]) := by
  have hc := h.call hs.below
  have hg := hs.new (g, cs) (by simp)
  refine ⟨hc.below, hc.old, fun x hx => ?_, ?_⟩
  · rcases List.mem_append.1 hx with hx | hx
    · exact hc.new x hx
    · obtain rfl : x = (g, cs) := by simpa using hx
      exact ⟨Nat.le_trans h.below.size hg.1, hg.2⟩
  · rw [List.map_append, List.nodup_append]
    refine ⟨hc.apart, by simp, fun a ha b hb e => ?_⟩
    obtain ⟨x, hx, rfl⟩ := List.mem_map.1 ha
    have h1 := (h.new x hx).2.1
    simp at hb
    subst hb
    have := hg.1
    simp only at this e
    omega
--## d
theorem Mem.cellIn {w0 W : World} {r l : Blocks} {b : Nat} {cs : List Value} (h : Mem w0 W r l) (hm : (b, cs) ∈ l) (o : Nat) (v : Value) (hc : cs[o]? = some v) : W.cell? ⟨b, o, none⟩ = some v ∧ W.frozen? ⟨b, o, none⟩ = false := by
  obtain ⟨_, _, h3, h4⟩ := h.new _ hm
  have e1 := h3 o v hc
  have e2 := (h4 o (List.getElem?_eq_some_iff.1 hc).1).2
  rw [Nat.zero_add] at e1 e2
  exact ⟨e1, e2⟩
--## d
theorem Mem.store1 {w0 W : World} {r : Blocks} {b : Nat} {cs : List Value} (h : Mem w0 W r [(b, cs)]) (o : Nat) (v : Value) (hf : o + 1 ≤ cs.length) : Mem w0 (W.setCell ⟨b, o, none⟩ v) r [(b, splice cs o [v])] :=
  (Mem.store h (k := 0) rfl o [v] hf).2
--## d
theorem Mem.cellAt {w0 W : World} {r : Blocks} {b : Nat} {cs : List Value} (h : Mem w0 W r [(b, cs)]) (o : Nat) (v : Value) (hc : cs[o]? = some v) : W.cell? ⟨b, o, none⟩ = some v ∧ W.frozen? ⟨b, o, none⟩ = false := by
  obtain ⟨_, _, h3, h4⟩ := h.new _ (by simp : (b, cs) ∈ [(b, cs)])
  have e1 := h3 o v hc
  have e2 := (h4 o (List.getElem?_eq_some_iff.1 hc).1).2
  rw [Nat.zero_add] at e1 e2
  exact ⟨e1, e2⟩
--## d
set_option maxRecDepth 20000 in
set_option maxHeartbeats 4000000 in
theorem marksI (a b c d e : Int) (ha : -500 ≤ a ∧ a ≤ 500) (hb : -500 ≤ b ∧ b ≤ 500) (hc : -500 ≤ c ∧ c ≤ 500) (hd : -500 ≤ d ∧ d ≤ 500) (w : World) : Calls Try.prog 84 #[st a b c d e] w (fun e w' => ∃ g, e = .returned (.slice (some ⟨g, 0, none⟩) ((distF a b c d).toNat + 1) ((distF a b c d).toNat + 1)) ∧ Mem w w' [] [(g, (rM (marksN a b c d (distF a b c d))).flatten)]) := by
  obtain ⟨hn0, hn1, hx0, hx1, hy0, hy1⟩ := dist_bd ha hb hc hd
  have HD : Aside (∀ w, Calls Try.prog 71 #[mk a b, mk c d] w (Gives (fun v => v = .int .i64 (distF a b c d)) w)) := DistanceOfI a b c d (by unfold I16; omega) (by unfold I16; omega) (by unfold I16; omega) (by unfold I16; omega)
  have HL : Aside (∀ w, Calls Try.prog 88 #[mk c d, mk a b] w (Gives (fun v => v = .agg #[.int .i64 (c - a), .int .i64 (d - b)]) w)) := lessI c d a b (by unfold I16; omega) (by unfold I16; omega) (by unfold I16; omega) (by unfold I16; omega)
  generalize distF a b c d = n at *
  have hmk : ∀ W : World, (Instr.makeSlice 30 (.int .i64 (n + 1)) (.int .i64 (n + 1))).run Try.prog W = .ok (.slice (some ⟨W.heap.size, 0, none⟩) (n.toNat + 1) (n.toNat + 1)) (W.alloc (.cells (madeCells #[.int .i16 0, .int .i16 0] ((n.toNat + 1) * 2)) 45)) := fun W => by
    have h := makeR (P := Try.prog) (s := 30) (e := 45) (z := mk 0 0) (m := 2) (bytes := 4) (by kernel_rfl) (by kernel_rfl) (by kernel_rfl) (by kernel_rfl) (by kernel_rfl) (by omega) (n.toNat + 1) (by omega) W
    rw [show ((n.toNat + 1 : Nat) : Int) = n + 1 by omega] at h
    exact h
  have hK : ∀ W, Bel (w.alloc (.cells #[.int .i16 a, .int .i16 b, .int .i16 c, .int .i16 d, .int .i8 e] 70)) W → W.cell? ⟨w.heap.size, 0, none⟩ = some (.int .i16 a) ∧ W.cell? ⟨w.heap.size, 1, none⟩ = some (.int .i16 b) ∧ W.cell? ⟨w.heap.size, 2, none⟩ = some (.int .i16 c) ∧ W.cell? ⟨w.heap.size, 3, none⟩ = some (.int .i16 d) ∧ W.cell? ⟨w.heap.size, 4, none⟩ = some (.int .i8 e) ∧ Bel (w.alloc (.cells #[.int .i16 a, .int .i16 b, .int .i16 c, .int .i16 d, .int .i8 e] 70)) W := fun W hB => by
    have hcc : ∀ bk o, bk < w.heap.size + 1 → W.cell? ⟨bk, o, none⟩ = (w.alloc (.cells #[.int .i16 a, .int .i16 b, .int .i16 c, .int .i16 d, .int .i8 e] 70)).cell? ⟨bk, o, none⟩ := fun bk o h => (bcell (W := (w.alloc (.cells #[.int .i16 a, .int .i16 b, .int .i16 c, .int .i16 d, .int .i8 e] 70))) (w1 := W) hB.out).1 bk o (by simpa using h)
    refine ⟨?_, ?_, ?_, ?_, ?_, hB⟩
    all_goals
      rw [hcc _ _ (by omega)]
      simp [go_sem]
  have hL : ∀ W, Bel (w.alloc (.cells #[.int .i16 a, .int .i16 b, .int .i16 c, .int .i16 d, .int .i8 e] 70)) W → Below w.heap.size w W := fun W hB => below_step hB.out (below_alloc (Below.refl _ _))
  go_enter Try.func84, Try.ntmps84
  go_wp2_with fail
  go_cut [3, 4] (fun s3 s4 wx => ∃ g0, s3 = .pointer (some ⟨g0, 0, none⟩) ∧ s4 = .int .i64 n ∧ wx.cell? ⟨g0, 0, none⟩ = some (.int .i64 (c - a)) ∧ wx.cell? ⟨g0, 1, none⟩ = some (.int .i64 (d - b)) ∧ w.heap.size < g0 ∧ g0 < wx.heap.size ∧ Bel (w.alloc (.cells #[.int .i16 a, .int .i16 b, .int .i16 c, .int .i16 d, .int .i8 e] 70)) wx)
  case first =>
    go_region_held3 (fun W => W.cell? ⟨w.heap.size, 0, none⟩ = some (.int .i16 a) ∧ W.cell? ⟨w.heap.size, 1, none⟩ = some (.int .i16 b) ∧ W.cell? ⟨w.heap.size, 2, none⟩ = some (.int .i16 c) ∧ W.cell? ⟨w.heap.size, 3, none⟩ = some (.int .i16 d) ∧ W.cell? ⟨w.heap.size, 4, none⟩ = some (.int .i8 e) ∧ Bel (w.alloc (.cells #[.int .i16 a, .int .i16 b, .int .i16 c, .int .i16 d, .int .i8 e] 70)) W) (first | assumption | (refine hK _ ?_; (repeat' (first | exact Bel.refl _ | assumption | exact And.right (And.right (And.right (And.right (And.right (by assumption))))) | refine Bel.drew ?_ | refine Bel.alloc ?_ | refine Bel.set ?_ ?_ | refine Bel.step ?_ hb | (refine Bel.step ?_ (by assumption); exact And.right (And.right (And.right (And.right (And.right (by assumption)))))) | (simp; done) | (simp; omega) | omega)); done) | go_keep) (first | (go_at_call 88; refine (HL.out _).mono ?_; rintro e w1 ⟨_, rfl, rfl, hb1⟩; have HBl1 := Bel.step (And.right (And.right (And.right (And.right (And.right (by assumption)))))) hb1; obtain ⟨hcb1, hfb1⟩ := bcell hb1; (try simp at hcb1 hfb1); have hs1 := hb1.size; (try simp at hs1); (try (have hz1 : w.heap.size < w1.heap.size := (by omega))); (try (have hz2 : w.heap.size + 1 < w1.heap.size := (by omega))); (try (have hz31 := Nat.lt_of_succ_le hs1))) | (go_at_call 71; refine (HD.out _).mono ?_; rintro e w2 ⟨_, rfl, rfl, hb2⟩; have HBl2 := Bel.step (And.right (And.right (And.right (And.right (And.right (by assumption)))))) hb2; obtain ⟨hcb2, hfb2⟩ := bcell hb2; (try simp at hcb2 hfb2); have hs2 := hb2.size; (try simp at hs2); (try (have hz1 : w.heap.size < w2.heap.size := (by omega))); (try (have hz2 : w.heap.size + 1 < w2.heap.size := (by omega))); (try (have hz32 := Nat.lt_of_succ_le hs2))))
    · go_wp2_with fail
      go_meet
      exact ⟨w2.heap.size, rfl, rfl, by simp [go_sem, *], by simp [go_sem, *], by omega, by simp [go_sem, *], (by repeat' (first | exact Bel.refl _ | assumption | exact And.right (And.right (And.right (And.right (And.right (by assumption))))) | refine Bel.drew ?_ | refine Bel.alloc ?_ | refine Bel.set ?_ ?_ | refine Bel.step ?_ hb | (refine Bel.step ?_ (by assumption); exact And.right (And.right (And.right (And.right (And.right (by assumption)))))) | (simp; done) | (simp; omega) | omega))⟩
    · go_wp2_with fail
      go_meet
      exact ⟨w1.heap.size, rfl, rfl, by simp [go_sem, *], by simp [go_sem, *], by omega, by simp [go_sem, *], (by repeat' (first | exact Bel.refl _ | assumption | exact And.right (And.right (And.right (And.right (And.right (by assumption))))) | refine Bel.drew ?_ | refine Bel.alloc ?_ | refine Bel.set ?_ ?_ | refine Bel.step ?_ hb | (refine Bel.step ?_ (by assumption); exact And.right (And.right (And.right (And.right (And.right (by assumption)))))) | (simp; done) | (simp; omega) | omega))⟩
    · go_wp2_with fail
      go_meet
      exact ⟨w.heap.size + 1, rfl, rfl, by simp [go_sem, *], by simp [go_sem, *], by omega, by simp [go_sem, *], (by repeat' (first | exact Bel.refl _ | assumption | exact And.right (And.right (And.right (And.right (And.right (by assumption))))) | refine Bel.drew ?_ | refine Bel.alloc ?_ | refine Bel.set ?_ ?_ | refine Bel.step ?_ hb | (refine Bel.step ?_ (by assumption); exact And.right (And.right (And.right (And.right (And.right (by assumption)))))) | (simp; done) | (simp; omega) | omega))⟩
  case rest =>
    obtain ⟨g0, rfl, rfl, F0⟩ := hcut
    generalize wc = wr0 at *
    have F : Aside (wr0.cell? ⟨g0, 0, none⟩ = some (.int .i64 (c - a)) ∧ wr0.cell? ⟨g0, 1, none⟩ = some (.int .i64 (d - b)) ∧ w.heap.size < g0 ∧ g0 < wr0.heap.size ∧ Bel (w.alloc (.cells #[.int .i16 a, .int .i16 b, .int .i16 c, .int .i16 d, .int .i8 e] 70)) wr0) := F0
    clear F0 hK HL HD
    have G : Aside (∃ gm, gm = wr0.heap.size) := ⟨_, rfl⟩
    have M0 : Aside (Mem wr0 (wr0.alloc (.cells (madeCells #[.int .i16 0, .int .i16 0] ((n.toNat + 1) * 2)) 45)) [] [(wr0.heap.size, (madeCells #[.int .i16 0, .int .i16 0] ((n.toNat + 1) * 2)).toList)]) := (Mem.start wr0).alloc _ _
    have h28 : Aside ((Try.prog.info? 45).map (·.size) = some 2) := (by kernel_rfl : (Try.prog.info? 45).map (·.size) = some 2)
    go_wp2_with fail
    go_loopg [23] (n.toNat + 1) (fun k s23 wr => ∃ (i : Nat) (cs : List Value), s23 = .int .i64 i ∧ i + k = n.toNat + 1 ∧ cs.length = 2 * (n.toNat + 1) ∧ Mem wr0 wr [] [(wr0.heap.size, cs)] ∧ cs.take (2 * i) = ((rM (marksN a b c d n)).take i).flatten)
    · exact ⟨0, _, rfl, by omega, by simp [size_madeCells]; omega, M0.out, rfl⟩
    · obtain ⟨i, cs, rfl, hik, hl, HM, htk⟩ := hrel
      have B : Aside (i + gk = n.toNat + 1 ∧ cs.length = 2 * (n.toNat + 1) ∧ cs.take (2 * i) = ((rM (marksN a b c d n)).take i).flatten) := ⟨hik, hl, htk⟩
      have hMA : Aside (Mem wr0 wr [] [(wr0.heap.size, cs)]) := HM
      by_cases hi : i < n.toNat + 1
      · have hi' : (i : Int) < ((n.toNat + 1 : Nat) : Int) := by omega
        have hi0 : (0 : Int) ≤ (i : Int) := Int.natCast_nonneg _
        clear hik hl htk HM hmk
        obtain ⟨f1, f2, f3, f4, f5⟩ := F.out
        have hbw := hMA.out.below
        have hcell : Aside (wr.cell? ⟨w.heap.size, 0, none⟩ = some (.int .i16 a) ∧ wr.cell? ⟨w.heap.size, 1, none⟩ = some (.int .i16 b)) := by
          obtain ⟨hcc, _⟩ := bcell hbw
          obtain ⟨hcd, _⟩ := bcell f5.out
          refine ⟨?_, ?_⟩
          all_goals
            rw [hcc _ _ (by omega), hcd _ _ (by simp)]
            simp [go_sem]
        have hcell' := hcell.out
        clear f1 f2 f5 hbw
        go_wp2_with (first
          | (refine wpList_store (b := wr0.heap.size) (off := i * 2) (cs := cs) (vs := [.int .i16 a, .int .i16 b]) hMA.out 0 rfl rfl rfl rfl rfl rfl h28.out rfl (Nat.ble_eq_true_of_le (by have := B.out.2.1; simp only [List.length_cons, List.length_nil]; omega)) ?_; intro w3 hM3; have hM4 : Aside (Mem wr0 w3 [] [(wr0.heap.size, splice cs (i * 2) [.int .i16 a, .int .i16 b])]) := hM3; clear hM3))
        have hcl := B.out.2.1
        have hcell3 : w3.cell? ⟨g0, 0, none⟩ = some (.int .i64 (c - a)) ∧ w3.cell? ⟨g0, 1, none⟩ = some (.int .i64 (d - b)) := by
          obtain ⟨hcc, _⟩ := bcell hM4.out.below
          exact ⟨by rw [hcc _ _ (by omega)]; exact F.out.1, by rw [hcc _ _ (by omega)]; exact F.out.2.1⟩
        obtain ⟨q1, q3⟩ := Mem.cellAt hM4.out (i * 2) (.int .i16 a) (by rw [splice_get _ _ _ _ (by simp; omega), if_pos (by simp)]; simp)
        obtain ⟨q2, q4⟩ := Mem.cellAt hM4.out (i * 2 + 1) (.int .i16 b) (by rw [splice_get _ _ _ _ (by simp; omega), if_pos (by simp)]; simp)
        obtain ⟨q5, q6⟩ := hcell3
        obtain ⟨m, hm⟩ : ∃ m, (if n < 1 then (1 : Int) else n) = m := ⟨_, rfl⟩
        obtain ⟨hm0, hm1, hm2⟩ := near_m (w := c - a) hn0 hn1 hi hm
        obtain ⟨_, _, hm3⟩ := near_m (w := d - b) hn0 hn1 hi hm
        have X1 : -1000000 ≤ (i : Int) * (c - a) ∧ (i : Int) * (c - a) ≤ 1000000 ∧ -1000 ≤ nearF ((i : Int) * (c - a)) m ∧ nearF ((i : Int) * (c - a)) m ≤ 1000 := near_bd (k := (i : Int)) (n := m) (by omega) (by split at hm <;> omega) (by omega) hm1 (by split at hm <;> omega) (by split at hm <;> omega)
        have Y1 : -1000000 ≤ (i : Int) * (d - b) ∧ (i : Int) * (d - b) ≤ 1000000 ∧ -1000 ≤ nearF ((i : Int) * (d - b)) m ∧ nearF ((i : Int) * (d - b)) m ≤ 1000 := near_bd (k := (i : Int)) (n := m) (by omega) (by split at hm <;> omega) (by omega) hm1 (by split at hm <;> omega) (by split at hm <;> omega)
        have N1 := nearestA ((i : Int) * (c - a)) m X1.1 X1.2.1 hm0 (by omega)
        have N2 := nearestA ((i : Int) * (d - b)) m Y1.1 Y1.2.1 hm0 (by omega)
        obtain ⟨x, hx⟩ : ∃ x, nearF ((i : Int) * (c - a)) m = x := ⟨_, rfl⟩
        obtain ⟨y, hy⟩ : ∃ y, nearF ((i : Int) * (d - b)) m = y := ⟨_, rfl⟩
        have e3 : IntKind.i64.wrap ((i : Int) * (c - a)) = (i : Int) * (c - a) := wrapIn _ (by omega) (by omega)
        have e4 : IntKind.i64.wrap ((i : Int) * (d - b)) = (i : Int) * (d - b) := wrapIn _ (by omega) (by omega)
        rw [hx] at N1 X1
        rw [hy] at N2 Y1
        have hx1 := X1.2.2.1
        have hx2 := X1.2.2.2
        have hy1 := Y1.2.2.1
        have hy2 := Y1.2.2.2
        have e5 : IntKind.i16.wrap x = x := wrapI16 _ (by omega) (by omega)
        have e6 : IntKind.i16.wrap y = y := wrapI16 _ (by omega) (by omega)
        have e7 : IntKind.i16.wrap (a + x) = a + x := wrapI16 _ (by omega) (by omega)
        have e8 : IntKind.i16.wrap (b + y) = b + y := wrapI16 _ (by omega) (by omega)
        have hne : g0 ≠ wr0.heap.size := by omega
        have hHX : Aside (a + nearF ((i : Int) * (c - a)) n = a + x ∧ b + nearF ((i : Int) * (d - b)) n = b + y) := ⟨by rw [← hm2, hx], by rw [← hm3, hy]⟩
        clear hcell' X1 Y1 hm2 hm3 hx hy
        refine wp_loop_rounds 3 ?_
        rw [rounds_succ]
        go_upto_block 3 with fail
        go_cut [] (fun wx => Mem wr0 wx [] [(wr0.heap.size, splice (splice cs (i * 2) [.int .i16 a, .int .i16 b]) (i * 2) [.int .i16 (a + x)])])
        case first =>
          go_wp2_with fail
          go_region_law (first | (go_simp; go_at_call 92; (try simp only [e3, hm]); refine (N1 _).mono ?_; rintro e w' ⟨_, rfl, rfl, rfl⟩))
          all_goals
            go_wp2_with fail
            go_meet
            exact Mem.store1 (Mem.drew hM4.out) (i * 2) _ (by rw [splice_length]; omega)
        case rest =>
          have hM5 : Aside (Mem wr0 wc [] [(wr0.heap.size, splice (splice cs (i * 2) [.int .i16 a, .int .i16 b]) (i * 2) [.int .i16 (a + x)])]) := hcut
          clear hcut q1 q2 q3 q4 q5 q6
          obtain ⟨q2, q4⟩ := Mem.cellAt hM5.out (i * 2 + 1) (.int .i16 b) (by rw [splice_get _ _ _ _ (by simp [splice_length]; omega), if_neg (by simp), splice_get _ _ _ _ (by simp; omega), if_pos (by simp)]; simp)
          have q6 : wc.cell? ⟨g0, 1, none⟩ = some (.int .i64 (d - b)) := by
            obtain ⟨hcc, _⟩ := bcell hM5.out.below
            rw [hcc _ _ (by omega)]; exact F.out.2.1
          go_wp2_with fail
          rw [rounds_succ]
          go_upto_block 3 with fail
          go_cut [] (fun wx => Mem wr0 wx [] [(wr0.heap.size, splice (splice (splice cs (i * 2) [.int .i16 a, .int .i16 b]) (i * 2) [.int .i16 (a + x)]) (i * 2 + 1) [.int .i16 (b + y)])])
          case first =>
            go_wp2_with fail
            go_region_law (first | (go_simp; go_at_call 92; (try simp only [e4, hm]); refine (N2 _).mono ?_; rintro e w' ⟨_, rfl, rfl, rfl⟩))
            all_goals
              go_wp2_with fail
              go_meet
              exact Mem.store1 (Mem.drew hM5.out) (i * 2 + 1) _ (by rw [splice_length, splice_length]; omega)
          case rest =>
            have hM6 : Aside (Mem wr0 wc [] [(wr0.heap.size, splice (splice (splice cs (i * 2) [.int .i16 a, .int .i16 b]) (i * 2) [.int .i16 (a + x)]) (i * 2 + 1) [.int .i16 (b + y)])]) := hcut
            clear hcut q2 q4 q6
            go_wp2_with fail
            rw [rounds_succ]
            go_wp2_with fail
            obtain ⟨hik, hl, htk⟩ := B.out
            go_roundg (gk - 1)
            · refine ⟨i + 1, _, ?_, by omega, ?_, hM6.out, ?_⟩
              · first
                  | (congr 1; done)
                  | (congr 1; unfold wrap64; omega)
              · rw [splice_length, splice_length, splice_length]; exact hl
              · rw [show 2 * (i + 1) = i * 2 + 2 by omega, splice3 _ _ _ _ _ _ (by omega), show i * 2 = 2 * i by omega, htk, flatten_take (rM_get (marksN_get a b c d n i hi)), hHX.out.1, hHX.out.2]
            · omega
      · have hi' : ¬ ((i : Int) < ((n.toNat + 1 : Nat) : Int)) := by omega
        obtain ⟨hik, hl, htk⟩ := B.out
        have hie : i = n.toNat + 1 := by omega
        clear hmk M0
        go_wp2_with fail
        simp [bodyPost, results, Try.results84, go_sem]
        have hcs : cs = (rM (marksN a b c d n)).flatten := by
          rw [hie, List.take_of_length_le (by omega), List.take_of_length_le (by rw [rM_len, marksN_len]; omega)] at htk
          exact htk
        exact Mem.lift (hcs ▸ hMA.out) (hL _ F.out.2.2.2.2)
--## d
end Go.Proofs.Ytbhbdpcefgledaa
