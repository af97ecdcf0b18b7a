/- Contracts: lists of strokes are valid (both sides). -/
import Derived.Test.YtbhbdpcefgledaaLskA
import Derived.Test.YtbhbdpcefgledaaMrkD
import Derived.Test.YtbhbdpcefgledaaMrkB
namespace Go.Proofs.Ytbhbdpcefgledaa
--## d
open Go.RowKit Go.Mem
set_option linter.unusedSimpArgs false
set_option linter.unusedVariables false
set_option maxRecDepth 20000
--## d
abbrev S5 := Int × Int × Int × Int × Int
--## d
def okK (s : S5) : Bool := okS s.1 s.2.1 s.2.2.1 s.2.2.2.1 s.2.2.2.2
--## d
def wfK (s : S5) : Prop := I16 s.1 ∧ I16 s.2.1 ∧ I16 s.2.2.1 ∧ I16 s.2.2.2.1 ∧ I8 s.2.2.2.2
--## d
def allK (ss : List S5) : Bool := ss.all okK
--## d
def codeK (ss : List S5) (ms : List (Int × Int)) : Int := if allK ss && allM ms then (if 60 < ss.length then 3 else 0) else 1
--## d
theorem allK_take {ss : List S5} {i : Nat} {s : S5} (hs : ss[i]? = some s) (h : allK (ss.take i) = true) : allK (ss.take (i + 1)) = okK s := by
  have hi : i < ss.length := (List.getElem?_eq_some_iff.mp hs).1
  have he : ss[i] = s := (List.getElem?_eq_some_iff.mp hs).2
  unfold allK at *
  rw [List.take_succ_eq_append_getElem hi, List.all_append, h, he]; simp
--## d
theorem allK_bad {ss : List S5} {i : Nat} {s : S5} (hs : ss[i]? = some s) (h : okK s = false) : allK ss = false := by
  unfold allK
  rw [List.all_eq_false]
  exact ⟨s, List.mem_of_getElem? hs, by simp [h]⟩
--## d
set_option maxHeartbeats 4000000 in
theorem l06OkP (q : Addr) (a b c d e : Int) (w : World) (ha : I16 a) (hb : I16 b) (hc : I16 c) (hd : I16 d) (h0 : w.cell? q = some (.int .i16 a)) (h1 : w.cell? ⟨q.block, q.off + 1, none⟩ = some (.int .i16 b)) (h2 : w.cell? ⟨q.block, q.off + 2, none⟩ = some (.int .i16 c)) (h3 : w.cell? ⟨q.block, q.off + 3, none⟩ = some (.int .i16 d)) (h4 : w.cell? ⟨q.block, q.off + 4, none⟩ = some (.int .i8 e)) (hp : q.block < w.heap.size) : Calls Try.prog 66 #[.pointer (some q)] w (Gives (isB (okS a b c d e)) w) := by
  have H1 : Aside (∀ w, Calls Try.prog 36 #[mk a b] w (Gives (isB (okM a b)) w)) := l06MarkA a b ha hb
  have H2 : Aside (∀ w, Calls Try.prog 36 #[mk c d] w (Gives (isB (okM c d)) w)) := l06MarkA c d hc hd
  have H3 : Aside (∀ w, Calls Try.prog 86 #[.int .i8 e] w (Same (isB (okD e)) w)) := l06DashA e
  clear ha hb hc hd
  unfold okS
  generalize okM a b = p1 at *
  generalize okM c d = p2 at *
  generalize okD e = p3 at *
  have t1 : True := trivial
  cases p1 <;> cases p2 <;> cases p3
  all_goals
    go_enter Try.func66, Try.ntmps66
    go_wp2_with (first | (clear t1; go_at_call 36; refine (H1.out _).mono ?_; rintro e w' ⟨_, rfl, rfl, hb⟩; obtain ⟨hc, hf⟩ := bcell hb; (try simp at hc hf); have hs := hb.size; (try simp at hs); (try (have hz0 : w.heap.size < w'.heap.size := (by omega))); (try (have hz1 : w.heap.size + 1 < w'.heap.size := (by omega))); (try (have hz2 : w.heap.size + 1 + 1 < w'.heap.size := (by omega))); (try (have hzp : q.block < w'.heap.size := (by omega))); have HB := Lib.hid hb; clear hb hs) | (go_at_call 36; refine (H2.out _).mono ?_; rintro e w' ⟨_, rfl, rfl, hb⟩; obtain ⟨hc, hf⟩ := bcell hb; (try simp at hc hf); have hs := hb.size; (try simp at hs); (try (have hz0 : w.heap.size < w'.heap.size := (by omega))); (try (have hz1 : w.heap.size + 1 < w'.heap.size := (by omega))); (try (have hz2 : w.heap.size + 1 + 1 < w'.heap.size := (by omega))); (try (have hzp : q.block < w'.heap.size := (by omega))); have HB := Lib.hid hb; clear hb hs) | (go_at_call 86; refine (H3.out _).mono ?_; rintro e w' ⟨_, rfl, rfl, rfl⟩))
    simp [bodyPost, results, Try.results66, go_sem, *]
    refine ⟨_, rfl, ?_, (by ((try simp only [Hid] at *); repeat' (first | (with_reducible exact Below.refl _ _) | (with_reducible assumption) | (with_reducible refine below_drewN ?_ _) | (with_reducible refine Below.drew ?_) | (with_reducible refine below_alloc ?_) | (with_reducible refine below_set ?_ ?_) | (refine below_step (by with_reducible assumption) ?_) | (simp; done) | (simp; omega) | omega)))⟩
    simp_all [isB]
--## d
set_option maxHeartbeats 4000000 in
theorem checkStrokesI (v u : Value) (ss : List S5) (ms : List (Int × Int)) (w : World) (hP : Rls 5 w v (rK ss)) (hQ : Rls 2 w u (rM ms)) (hn : ss.length ≤ 1048576) (hm : ms.length ≤ 1048576) (hwf : ∀ s ∈ ss, wfK s) :
    Calls Try.prog 41 #[v, u] w (Gives (fun x => x = .int .i64 (codeK ss ms)) w) := by
  have hP' := hP
  obtain ⟨a, c, rfl, _⟩ := hP
  rw [rK_len] at *
  have A : Aside (Rls 2 w u (rM ms) ∧ ss.length ≤ 1048576 ∧ ms.length ≤ 1048576 ∧ ∀ s ∈ ss, wfK s) := ⟨hQ, hn, hm, hwf⟩
  obtain ⟨a2, c2, rfl, _⟩ := hQ
  clear hm hwf
  go_enter Try.func41, Try.ntmps41
  go_wp2_with fail
  go_loopg [9] ss.length (fun k s9 wr => ∃ (i : Nat), s9 = .int .i64 i ∧ i + k = ss.length ∧ allK (ss.take i) = true ∧ Below w.heap.size w wr)
  · exact ⟨0, rfl, by omega, rfl, Below.refl _ _⟩
  · obtain ⟨i, rfl, hik, hr, HB⟩ := hrel
    have B : Aside (i + gk = ss.length ∧ allK (ss.take i) = true ∧ Below w.heap.size w wr) := ⟨hik, hr, HB⟩
    by_cases hi : i < ss.length
    · obtain ⟨s, hs⟩ : ∃ s, ss[i]? = some s := ⟨ss[i], List.getElem?_eq_getElem hi⟩
      obtain ⟨b, c', e0, hbl, hcells⟩ := (hP'.below HB).at (rK_get hs)
      rw [rK_len] at e0
      cases e0
      have hi' : (i : Int) < (ss.length : Int) := by omega
      have C : Aside ((b.add (i * 5)).block < wr.heap.size ∧ ∀ k x, [Value.int .i16 s.1, .int .i16 s.2.1, .int .i16 s.2.2.1, .int .i16 s.2.2.2.1, .int .i8 s.2.2.2.2][k]? = some x → wr.cell? ((b.add (i * 5)).add k) = some x) := ⟨hbl, hcells⟩
      have P0 : Aside (ss[i]? = some s) := hs
      have hw := A.out.2.2.2 s (List.mem_of_getElem? hs)
      have H1 : Aside (∀ w, Calls Try.prog 69 #[st s.1 s.2.1 s.2.2.1 s.2.2.2.1 s.2.2.2.2] w (Gives (isB (okK s)) w)) := ValidStrokeI s.1 s.2.1 s.2.2.1 s.2.2.2.1 s.2.2.2.2 hw.1 hw.2.1 hw.2.2.1 hw.2.2.2.1 hw.2.2.2.2
      clear hcells hbl hP' hs hik hr HB hw
      cases hq : okK s
      all_goals
        rw [hq] at H1
        have HQ : Aside (okK s = _) := hq
        clear hq
        go_wp2_with (first
          | (refine wpList_idxR rfl rfl (by kernel_rfl) (by kernel_rfl) rfl rfl (Int.natCast_nonneg _) hi' ?_; simp only [Int.toNat_natCast])
          | (refine wpList_rowR rfl rfl (n := 5) (by kernel_rfl) rfl rfl C.out.2 ?_)
          | (go_at_call 69; refine (H1.out _).mono ?_; rintro e w' ⟨_, rfl, rfl, hb⟩; have HB1 := Lib.hid hb; clear hb))
      · simp [bodyPost, results, Try.results41, go_sem]
        exact ⟨_, rfl, by rw [codeK, allK_bad P0.out HQ.out]; simp, below_step HB1.out (below_alloc B.out.2.2)⟩
      · obtain ⟨hik, hr, HB⟩ := B.out
        go_roundg (gk - 1)
        · refine ⟨i + 1, ?_, by omega, by rw [allK_take P0.out hr]; exact HQ.out, below_step HB1.out (below_alloc HB)⟩
          first
            | (congr 1; done)
            | (congr 1; have := A.out.2.1; unfold wrap64; omega)
        · omega
    · have hi' : ¬ ((i : Int) < (ss.length : Int)) := by omega
      have hie : i = ss.length := by omega
      have HL : allK ss = true := by rw [hie, List.take_of_length_le (Nat.le_refl _)] at hr; exact hr
      have D : Aside (allK ss = true) := HL
      clear hP' hik hr hie HL HB
      have H2 : Aside (Calls Try.prog 32 #[.slice a2 (rM ms).length c2] wr (Gives (isB (allM ms)) wr)) := validMarksA _ ms wr (A.out.1.below B.out.2.2) A.out.2.2.1
      cases hq : allM ms
      · rw [hq] at H2
        have HQ : Aside (allM ms = false) := hq
        clear hq
        go_wp2_with (go_at_call 32; refine H2.out.mono ?_; rintro e w' ⟨_, rfl, rfl, hb⟩; have HB1 := Lib.hid hb; clear hb)
        simp [bodyPost, results, Try.results41, go_sem]
        exact ⟨_, rfl, by rw [codeK, HQ.out]; simp, below_step HB1.out B.out.2.2⟩
      · rw [hq] at H2
        have HQ : Aside (allM ms = true) := hq
        clear hq
        by_cases h60 : (60 : Int) < (ss.length : Int)
        · go_wp2_with (go_at_call 32; refine H2.out.mono ?_; rintro e w' ⟨_, rfl, rfl, hb⟩; have HB1 := Lib.hid hb; clear hb)
          simp [bodyPost, results, Try.results41, go_sem]
          exact ⟨_, rfl, by rw [codeK, HQ.out, D.out, if_pos (by rfl), if_pos (by omega)], below_step HB1.out B.out.2.2⟩
        · go_wp2_with (go_at_call 32; refine H2.out.mono ?_; rintro e w' ⟨_, rfl, rfl, hb⟩; have HB1 := Lib.hid hb; clear hb)
          simp [bodyPost, results, Try.results41, go_sem]
          exact ⟨_, rfl, by rw [codeK, HQ.out, D.out, if_pos (by rfl), if_neg (by omega)], below_step HB1.out B.out.2.2⟩
--## d
end Go.Proofs.Ytbhbdpcefgledaa
