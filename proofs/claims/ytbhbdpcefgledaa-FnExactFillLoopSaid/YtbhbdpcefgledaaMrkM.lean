/- Contracts: the marks of a stroke as the model makes them, with the block that they lie in. -/
import Derived.Test.YtbhbdpcefgledaaMrkF
namespace Go.Proofs.Ytbhbdpcefgledaa
--## d
open Go.RowKit Go.Mem
set_option linter.unusedSimpArgs false
set_option linter.unusedVariables false
set_option maxRecDepth 20000
--## d
theorem owns_mem {w0 w : World} {base E m n : Nat} {v : Value} {xs : List Value} (h : w.ownsRow base E m v n xs) (hx : xs ≠ []) (hb : w0.heap.size ≤ base) (hB : Below w0.heap.size w0 w) : ∃ g c, v = .slice (some ⟨g, 0, none⟩) n c ∧ Mem w0 w [] [(g, xs)] := by
  have hc := fun g hg => h.cells (g := g) hg
  obtain ⟨hl, h'⟩ := h
  rcases h' with ⟨rfl, rfl⟩ | ⟨g, cap, cur, rfl, hbg, hg, h1, h2, h3, h4⟩
  · exact absurd (List.eq_nil_of_length_eq_zero (by rw [hl]; simp)) hx
  · refine ⟨g, cap, rfl, hB, fun _ h => (by cases h), fun x hx => ?_, by simp⟩
    obtain rfl : x = (g, xs) := by simpa using hx
    refine ⟨Nat.le_trans hb hbg, (Array.getElem?_eq_some_iff.1 hg).1, fun j v hv => (by have := hc g rfl j v hv; rw [Addr.add_mid] at this; exact this), fun j hj => ⟨?_, ?_⟩⟩
    · have := hc g rfl j xs[j] (List.getElem?_eq_getElem hj)
      rw [Addr.add_mid] at this
      rw [this]
      rfl
    · simp [World.frozen?, hg]
--## d
set_option maxHeartbeats 1000000 in
theorem l06MarksM (a b c d : Int) (ha : -500 ≤ a ∧ a ≤ 500) (hb : -500 ≤ b ∧ b ≤ 500) (hc : -500 ≤ c ∧ c ≤ 500) (hd : -500 ≤ d ∧ d ≤ 500) (w : World) : Calls Try.prog 79 #[mk a b, mk c d] w (fun e w' => ∃ g k, e = .returned (.slice (some ⟨g, 0, none⟩) (marksN a b c d (distF a b c d)).length k) ∧ Mem w w' [] [(g, (rM (marksN a b c d (distF a b c d))).flatten)]) := by
  obtain ⟨hn0, hn1, hx0, hx1, hy0, hy1⟩ := dist_bd ha hb hc hd
  have HD : Aside (∀ w, Calls Try.prog 37 #[mk a b, mk c d] w (Gives (fun v => v = .int .i64 (distF a b c d)) w)) := l06DistanceA a b c d (by unfold I16; omega) (by unfold I16; omega) (by unfold I16; omega) (by unfold I16; omega)
  generalize distF a b c d = n at *
  by_cases hn : n = 0
  · subst hn
    go_enter Try.func79, Try.ntmps79
    go_wp2_with (first | (go_at_call 37; refine (HD.out _).mono ?_; rintro e w' ⟨_, rfl, rfl, hb⟩; obtain ⟨hc, hf⟩ := bcell hb; (try simp at hc hf); have hs := hb.size; (try simp at hs); (try (have hz0 : w.heap.size < w'.heap.size := (by omega))); (try (have hz1 : w.heap.size + 1 < w'.heap.size := (by omega))); (try (have hz2 : w.heap.size + 1 + 1 < w'.heap.size := (by omega))); (try (have hz3 : w.heap.size + 1 + 1 + 1 < w'.heap.size := (by omega))); have HB := Lib.hid hb; clear hb hs))
    simp [bodyPost, results, Try.results79, go_sem]
    have e : marksN a b c d 0 = [(a, b)] := by simp [marksN, nearF]
    rw [e]
    exact ⟨_, ⟨rfl, rfl⟩, Mem.alloc (Mem.call (Mem.start w) (below_step HB.out (below_alloc (below_alloc (Below.refl _ _))))) #[.int .i16 a, .int .i16 b] _⟩
  · obtain ⟨i0, hi, hz0, hz1, hz2⟩ := info_parts infoM
    have hn' : (n == 0) = false := by simpa using hn
    go_enter Try.func79, Try.ntmps79
    go_wp2_with (first | (go_at_call 37; refine (HD.out _).mono ?_; rintro e w2 ⟨_, rfl, rfl, hb⟩; obtain ⟨hcc, hff⟩ := bcell hb; simp at hcc; have hs := hb.size; simp at hs; have HB2 : Aside (Below w.heap.size w w2) := below_step hb (below_alloc (below_alloc (Below.refl _ _))); have C2 : Aside (w2.cell? ⟨w.heap.size, 0, none⟩ = some (.int .i16 a) ∧ w2.cell? ⟨w.heap.size, 1, none⟩ = some (.int .i16 b) ∧ w2.cell? ⟨w.heap.size + 1, 0, none⟩ = some (.int .i16 c) ∧ w2.cell? ⟨w.heap.size + 1, 1, none⟩ = some (.int .i16 d) ∧ w.heap.size + 2 ≤ w2.heap.size) := ⟨(by rw [hcc _ _ (by omega)]; simp [go_sem]), (by rw [hcc _ _ (by omega)]; simp [go_sem]), (by rw [hcc _ _ (by omega)]; simp [go_sem]), (by rw [hcc _ _ (by omega)]; simp [go_sem]), hs⟩; clear hcc hff hb hs))
    go_loopg [6, 7] (n.toNat + 1) (fun k s6 s7 wr => ∃ (i : Nat) (xs : List Value), s7 = .int .i64 i ∧ i + k = n.toNat + 1 ∧ xs = ((rM (marksN a b c d n)).take i).flatten ∧ wr.ownsRow w2.heap.size 45 2 s6 i xs ∧ Below w2.heap.size w2 wr)
    · exact ⟨0, [], rfl, by omega, rfl, World.ownsRow_made w2 #[] 0 (Nat.le_refl _) (by unfold maxLen; omega) rfl, below_alloc (Below.refl _ _)⟩
    · obtain ⟨i, xs, rfl, hik, hxs, hown, hB⟩ := hrel
      have B : Aside (i + gk = n.toNat + 1 ∧ xs = ((rM (marksN a b c d n)).take i).flatten ∧ Below w2.heap.size w2 wr) := ⟨hik, hxs, hB⟩
      by_cases hi : i < n.toNat + 1
      · have hi' : (i : Int) ≤ n := by omega
        clear hik hxs hB
        go_wp2_with fail
        refine wp_loop_rounds 3 ?_
        rw [rounds_succ]
        go_wp2_with fail
        have X1 := near_bd (k := (i : Int)) (by omega) hi' (by omega) hn1 hx0 hx1
        have Y1 := near_bd (k := (i : Int)) (by omega) hi' (by omega) hn1 hy0 hy1
        have e1 : IntKind.i64.wrap (c - a) = c - a := wrapIn _ (by omega) (by omega)
        have e2 : IntKind.i64.wrap (d - b) = d - b := wrapIn _ (by omega) (by omega)
        have e3 : IntKind.i64.wrap ((i : Int) * (c - a)) = (i : Int) * (c - a) := wrapIn _ (by omega) (by omega)
        have e4 : IntKind.i64.wrap ((i : Int) * (d - b)) = (i : Int) * (d - b) := wrapIn _ (by omega) (by omega)
        have e5 : IntKind.i64.wrap (a + nearF ((i : Int) * (c - a)) n) = a + nearF ((i : Int) * (c - a)) n := wrapIn _ (by omega) (by omega)
        have e6 : IntKind.i64.wrap (b + nearF ((i : Int) * (d - b)) n) = b + nearF ((i : Int) * (d - b)) n := wrapIn _ (by omega) (by omega)
        have e7 : IntKind.i16.wrap (a + nearF ((i : Int) * (c - a)) n) = a + nearF ((i : Int) * (c - a)) n := wrapI16 _ (by omega) (by omega)
        have e8 : IntKind.i16.wrap (b + nearF ((i : Int) * (d - b)) n) = b + nearF ((i : Int) * (d - b)) n := wrapI16 _ (by omega) (by omega)
        have ea : IntKind.i64.wrap a = a := wrapIn _ (by omega) (by omega)
        have eb : IntKind.i64.wrap b = b := wrapIn _ (by omega) (by omega)
        have ec : IntKind.i64.wrap c = c := wrapIn _ (by omega) (by omega)
        have ed : IntKind.i64.wrap d = d := wrapIn _ (by omega) (by omega)
        have N1 := l06NearA ((i : Int) * (c - a)) n (near_bd (by omega) hi' (by omega) hn1 hx0 hx1).1 (near_bd (by omega) hi' (by omega) hn1 hx0 hx1).2.1 (by omega) (by omega)
        have N2 := l06NearA ((i : Int) * (d - b)) n (near_bd (by omega) hi' (by omega) hn1 hy0 hy1).1 (near_bd (by omega) hi' (by omega) hn1 hy0 hy1).2.1 (by omega) (by omega)
        have hK : ∀ W, Bel wr W → W.cell? ⟨w.heap.size, 0, none⟩ = some (.int .i16 a) ∧ W.cell? ⟨w.heap.size, 1, none⟩ = some (.int .i16 b) ∧ W.cell? ⟨w.heap.size + 1, 0, none⟩ = some (.int .i16 c) ∧ W.cell? ⟨w.heap.size + 1, 1, none⟩ = some (.int .i16 d) ∧ Bel wr W := fun W hW => by
          obtain ⟨c1, c2, c3, c4, hsz⟩ := C2.out
          have hbw := B.out.2.2
          obtain ⟨hcc, hff⟩ := bcell (W := w2) (w1 := W) (below_step hW hbw)
          have hs2 := hbw.size
          refine ⟨by rw [hcc _ _ (by omega)]; exact c1, by rw [hcc _ _ (by omega)]; exact c2, by rw [hcc _ _ (by omega)]; exact c3, by rw [hcc _ _ (by omega)]; exact c4, hW⟩
        go_region_held3 (fun W => W.cell? ⟨w.heap.size, 0, none⟩ = some (.int .i16 a) ∧ W.cell? ⟨w.heap.size, 1, none⟩ = some (.int .i16 b) ∧ W.cell? ⟨w.heap.size + 1, 0, none⟩ = some (.int .i16 c) ∧ W.cell? ⟨w.heap.size + 1, 1, none⟩ = some (.int .i16 d) ∧ Bel wr W) (first | exact hK _ (Bel.drew (Bel.alloc (Bel.refl _))) | exact hK _ (Bel.alloc (Bel.refl _)) | assumption | exact hK _ (And.right (And.right (And.right (And.right (by assumption))))) | exact hK _ (Bel.drew (And.right (And.right (And.right (And.right (by assumption)))))) | go_keep) (first | (go_at_call 90; (try simp only [ea, ec, e1, e3]); refine (N1 _).mono ?_; rintro e w' ⟨_, rfl, rfl, rfl⟩))
        all_goals go_wp2_with fail
        all_goals rw [rounds_succ]
        all_goals go_wp2_with fail
        all_goals go_region_held3 (fun W => W.cell? ⟨w.heap.size, 0, none⟩ = some (.int .i16 a) ∧ W.cell? ⟨w.heap.size, 1, none⟩ = some (.int .i16 b) ∧ W.cell? ⟨w.heap.size + 1, 0, none⟩ = some (.int .i16 c) ∧ W.cell? ⟨w.heap.size + 1, 1, none⟩ = some (.int .i16 d) ∧ Bel wr W) (first | exact hK _ (Bel.drew (Bel.drew (Bel.alloc (Bel.refl _)))) | exact hK _ (Bel.drew (Bel.alloc (Bel.refl _))) | exact hK _ (Bel.alloc (Bel.refl _)) | assumption | exact hK _ (And.right (And.right (And.right (And.right (by assumption))))) | exact hK _ (Bel.drew (And.right (And.right (And.right (And.right (by assumption)))))) | go_keep) (first | (go_at_call 90; (try simp only [eb, ed, e2, e4]); refine (N2 _).mono ?_; rintro e w' ⟨_, rfl, rfl, rfl⟩))
        all_goals go_wp2_with fail
        all_goals rw [rounds_succ]
        all_goals have hownA := (((hown.alloc (.cells #[.int .i16 (a + nearF ((i : Int) * (c - a)) n), .int .i16 (b + nearF ((i : Int) * (d - b)) n)] 45)).drew).drew)
        all_goals have hsz := B.out.2.2.size
        all_goals go_wp2_with (at_builtin; refine wpList_append_own _ rfl _ _ 30 rfl w2.heap.size 45 i0 (mk 0 0) 2 4 Try.underlying30 ‹_› hz0 hz1 hz2 rfl (by decide) _ _ _ rfl (hownA.alloc _) ⟨wr.heap.size + 1, 0, none⟩ 1 1 [.int .i16 (a + nearF ((i : Int) * (c - a)) n), .int .i16 (b + nearF ((i : Int) * (d - b)) n)] rfl rfl (twoC _ _ _ _ _ (by simp)) (m_one _ _) (by unfold maxLen; omega) (by omega) (by simp; omega) ?_; intro v' w1 hown1 hg1 _)
        all_goals obtain ⟨hik, hxs, hB⟩ := B.out
        all_goals go_roundg (gk - 1)
        · refine ⟨i + 1, _, ?_, by omega, ?_, hown1, below_appM (below_alloc hB).drew.drew hownA hg1⟩
          · first
              | (congr 1; done)
              | (congr 1; unfold wrap64; omega)
          · rw [flatten_take (rM_get (marksN_get a b c d n i hi)), hxs]
        · omega
      · have hi' : ¬ ((i : Int) ≤ n) := by omega
        have hie : i = n.toNat + 1 := by omega
        have hx2 : xs = (rM (marksN a b c d n)).flatten := by rw [hxs, hie, List.take_of_length_le]; rw [rM_len, marksN_len]; omega
        have hx3 : xs ≠ [] := fun h => by
          have := congrArg List.length (hx2.symm.trans h)
          rw [flatten_len rM_row, rM_len, marksN_len] at this
          simp at this
        obtain ⟨gg, cc, e1, hm⟩ := owns_mem hown hx3 (Below.size HB2.out) (below_step hB HB2.out)
        subst e1
        rw [hx2] at hm
        have he2 : i = (marksN a b c d n).length := by rw [marksN_len]; exact hie
        have HM9 : Aside (Mem w wr [] [(gg, (rM (marksN a b c d n)).flatten)] ∧ i = (marksN a b c d n).length) := ⟨hm, he2⟩
        clear hm he2 hx2 hx3 hown hxs
        go_wp2_with fail
        simp [bodyPost, results, Try.results79, go_sem]
        first
          | exact ⟨_, ⟨rfl, by rw [marksN_len]⟩, HM9.out.1⟩
          | exact ⟨HM9.out.2, HM9.out.1⟩
          | exact ⟨HM9.out.2.symm, HM9.out.1⟩
          | exact HM9.out.1
--## d
end Go.Proofs.Ytbhbdpcefgledaa
