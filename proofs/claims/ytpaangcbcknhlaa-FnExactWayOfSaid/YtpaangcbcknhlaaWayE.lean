/- Contracts: the way of a pen (the program's side). -/
import Derived.Test.YtpaangcbcknhlaaWayD
namespace Go.Proofs.Ytpaangcbcknhlaa
--## d
open Go.RowKit Go.Mem
set_option linter.unusedSimpArgs false
set_option linter.unusedVariables false
set_option maxRecDepth 20000
--## d
def legK (s : S5) (t : Bool) : S5 := if t then (s.2.2.1, s.2.2.2.1, s.1, s.2.1, s.2.2.2.2) else s
--## d
abbrev K5 (s : S5) : Value := st s.1 s.2.1 s.2.2.1 s.2.2.2.1 s.2.2.2.2
--## d
theorem legK_ends (s : S5) (t : Bool) : endA s t = ((legK s t).1, (legK s t).2.1) ∧ endB s t = ((legK s t).2.2.1, (legK s t).2.2.2.1) := by
  cases t <;> exact ⟨rfl, rfl⟩
--## d
set_option maxHeartbeats 400000 in
theorem turnedI (a b c d e : Int) (w : World) : Calls Try.prog 142 #[st a b c d e] w (Gives (fun v => v = st c d a b e) w) := by
  go_enter Try.func142, Try.ntmps142
  go_wp2_with fail
  simp [bodyPost, results, Try.results142, go_sem]
  exact ⟨_, rfl, rfl, (by ((try simp only [Hid] at *); repeat' (first | (with_reducible exact Below.refl _ _) | (with_reducible assumption) | (with_reducible refine below_drewN ?_ _) | (with_reducible refine Below.drew ?_) | (with_reducible refine below_alloc ?_) | (with_reducible refine below_set ?_ ?_) | (refine below_step (by with_reducible assumption) ?_) | (simp; done) | (simp; omega) | omega)))⟩
--## d
set_option maxHeartbeats 4000000 in
theorem routeI (g3 g4 g5 : Nat) (b b2 b3 : Addr) (n c c2 c3 : Nat) (i j : Nat) (s : S5) (t : Bool) (w : World) (hi : i < n) (hj : j < n) (hn : n ≤ 60)
    (h3 : w.cell? ⟨g3, 0, none⟩ = some (.slice (some b) n c)) (h4 : w.cell? ⟨g4, 0, none⟩ = some (.slice (some b2) n c2)) (h5 : w.cell? ⟨g5, 0, none⟩ = some (.slice (some b3) n c3))
    (hz : w.cell? (b2.add i) = some (.int .i64 (j : Int))) (ht : w.cell? (b3.add i) = some (.bool t))
    (k0 : w.cell? (b.add (j * 5)) = some (.int .i16 s.1)) (k1 : w.cell? ⟨(b.add (j * 5)).block, (b.add (j * 5)).off + 1, none⟩ = some (.int .i16 s.2.1)) (k2 : w.cell? ⟨(b.add (j * 5)).block, (b.add (j * 5)).off + 2, none⟩ = some (.int .i16 s.2.2.1)) (k3 : w.cell? ⟨(b.add (j * 5)).block, (b.add (j * 5)).off + 3, none⟩ = some (.int .i16 s.2.2.2.1)) (k4 : w.cell? ⟨(b.add (j * 5)).block, (b.add (j * 5)).off + 4, none⟩ = some (.int .i8 s.2.2.2.2))
    (q3 : g3 < w.heap.size) (q4 : g4 < w.heap.size) (q5 : g5 < w.heap.size) (p1 : (b.add (j * 5)).block < w.heap.size) (p2 : (b2.add i).block < w.heap.size) (p3 : (b3.add i).block < w.heap.size) :
    Calls Try.prog 141 #[.int .i64 (i : Int), .pointer (some ⟨g3, 0, none⟩), .pointer (some ⟨g4, 0, none⟩), .pointer (some ⟨g5, 0, none⟩)] w (Gives (fun v => v = K5 (legK s t)) w) := by
  have hi1 : (i : Int) < (n : Int) := by omega
  have hj1 : (j : Int) < (n : Int) := by omega
  have hi0 : (0 : Int) ≤ (i : Int) := Int.natCast_nonneg _
  have hj0 : (0 : Int) ≤ (j : Int) := Int.natCast_nonneg _
  cases t
  all_goals
    go_enter Try.func141, Try.ntmps141
    go_wp2_with fail
    go_region
    all_goals go_wp2_with (go_at_call 142; refine (turnedI _ _ _ _ _ _).mono ?_; rintro e w' ⟨_, rfl, rfl, hb⟩; obtain ⟨hc, hf⟩ := bcell hb; (try simp at hc hf); have hs := hb.size; (try simp at hs); have hz0 : w.heap.size < w'.heap.size := (by omega); (try (have kk0 : w'.cell? ⟨w.heap.size, 0, none⟩ = some (Value.int .i16 0) := by (rw [hc _ _ (by omega)]; simp [go_sem]))); (try (have kk1 : w'.cell? ⟨w.heap.size, 1, none⟩ = some (Value.int .i16 0) := by (rw [hc _ _ (by omega)]; simp [go_sem]))); (try (have kk2 : w'.cell? ⟨w.heap.size, 2, none⟩ = some (Value.int .i16 0) := by (rw [hc _ _ (by omega)]; simp [go_sem]))); (try (have kk3 : w'.cell? ⟨w.heap.size, 3, none⟩ = some (Value.int .i16 0) := by (rw [hc _ _ (by omega)]; simp [go_sem]))); (try (have kk4 : w'.cell? ⟨w.heap.size, 4, none⟩ = some (Value.int .i8 0) := by (rw [hc _ _ (by omega)]; simp [go_sem]))); have HB := Lib.hid hb; clear hb hs)
    all_goals
      simp [bodyPost, results, Try.results141, go_sem, *]
      exact ⟨_, rfl, rfl, (by ((try simp only [Hid] at *); repeat' (first | (with_reducible exact Below.refl _ _) | (with_reducible assumption) | (with_reducible refine below_drewN ?_ _) | (with_reducible refine Below.drew ?_) | (with_reducible refine below_alloc ?_) | (with_reducible refine below_set ?_ ?_) | (refine below_step (by with_reducible assumption) ?_) | (simp; done) | (simp; omega) | omega)))⟩
--## d
def legE (s : S5) : M2 × M2 := ((s.1, s.2.1), (s.2.2.1, s.2.2.2.1))
--## d
def legsG (lg : Nat → S5) (n : Nat) : List (M2 × M2) := (List.range n).map fun i => legE (lg i)
--## d
theorem way_snocG (p : M2) (lg : Nat → S5) (n : Nat) : wayF p (legsG lg (n + 1)) = ((legE (lg n)).2, (wayF p (legsG lg n)).2 + distF (wayF p (legsG lg n)).1.1 (wayF p (legsG lg n)).1.2 (legE (lg n)).1.1 (legE (lg n)).1.2) := by
  unfold wayF legsG
  rw [List.range_succ, List.map_append, List.foldl_append]
  rfl
--## d
set_option maxHeartbeats 8000000 in
theorem wayI (p3 p4 p5 : Value) (lg : Nat → S5) (n : Nat) (p : M2) (w : World) (hn : n ≤ 60) (hp : B500 p) (hlg : ∀ i, i < n → B500 (legE (lg i)).1 ∧ B500 (legE (lg i)).2)
    (HF : ∀ (i : Nat) W, i < n → Below w.heap.size w W → Calls Try.prog 141 #[.int .i64 (i : Int), p3, p4, p5] W (Gives (fun v => v = K5 (lg i)) W)) :
    Calls Try.prog 106 #[.func (.func 141) #[] #[p3, p4, p5], mkM p, .int .i64 (n : Int)] w (Gives (fun r => r = .int .i64 (wayF p (legsG lg n)).2) w) := by
  have A : Aside ((∀ (i : Nat) W, i < n → Below w.heap.size w W → Calls Try.prog 141 #[.int .i64 (i : Int), p3, p4, p5] W (Gives (fun v => v = K5 (lg i)) W)) ∧ (∀ i, i < n → B500 (legE (lg i)).1 ∧ B500 (legE (lg i)).2) ∧ B500 p) := ⟨HF, hlg, hp⟩
  have M0 : Aside (Mem w ((w.alloc (.cells #[.int .i16 p.1, .int .i16 p.2] 63)).alloc (.cells #[.int .i16 p.1, .int .i16 p.2] 63)) [] [(w.heap.size + 1, [.int .i16 p.1, .int .i16 p.2])]) := by
    have h := Mem.alloc (Mem.call (Mem.start w) (below_alloc (o := .cells #[.int .i16 p.1, .int .i16 p.2] 63) (Below.refl _ _))) #[.int .i16 p.1, .int .i16 p.2] 63
    rw [show (w.alloc (.cells #[.int .i16 p.1, .int .i16 p.2] 63)).heap.size = w.heap.size + 1 by simp] at h
    exact h
  have h28 : Aside ((Try.prog.info? 63).map (·.size) = some 2) := (by kernel_rfl : (Try.prog.info? 63).map (·.size) = some 2)
  clear HF hlg hp
  go_enter Try.func106, Try.ntmps106
  go_wp2_with fail
  go_loopg [8, 13] n (fun k s8 s13 wr => ∃ (i : Nat), s13 = .int .i64 i ∧ i + k = n ∧ s8 = .int .i64 (wayF p (legsG lg i)).2 ∧ (0 ≤ (wayF p (legsG lg i)).2 ∧ (wayF p (legsG lg i)).2 ≤ 1000 * i) ∧ B500 (wayF p (legsG lg i)).1 ∧ Mem w wr [] [(w.heap.size + 1, [.int .i16 (wayF p (legsG lg i)).1.1, .int .i16 (wayF p (legsG lg i)).1.2])])
  · exact ⟨0, rfl, by omega, rfl, by simp [wayF, legsG], A.out.2.2, M0.out⟩
  · obtain ⟨i, rfl, hik, rfl, hsum, hat, HM⟩ := hrel
    have hws := way_snocG p lg i
    generalize hwf : wayF p (legsG lg i) = wf at *
    obtain ⟨at_, sm⟩ := wf
    by_cases hi : i < n
    · have hi' : (i : Int) < (n : Int) := by omega
      have hi0 : (0 : Int) ≤ (i : Int) := Int.natCast_nonneg _
      have hbb := A.out.2.1 i hi
      have HQ : Aside (∀ W, Below w.heap.size w W → Calls Try.prog 141 #[.int .i64 (i : Int), p3, p4, p5] W (Gives (fun v => v = K5 (lg i)) W)) := fun W h => A.out.1 i W hi h
      generalize lg i = s at *
      have hd := dist_bd1 hat hbb.1
      have HD : Aside (∀ W, Calls Try.prog 143 #[mkM at_, mk s.1 s.2.1] W (Gives (fun v => v = .int .i64 (distF at_.1 at_.2 s.1 s.2.1)) W)) := DistanceOfI at_.1 at_.2 s.1 s.2.1 hat.i16.1 hat.i16.2 hbb.1.i16.1 hbb.1.i16.2
      obtain ⟨dd, hdd⟩ : ∃ d, distF at_.1 at_.2 s.1 s.2.1 = d := ⟨_, rfl⟩
      have hd' : 0 ≤ dd ∧ dd ≤ 1000 := by rw [← hdd]; exact hd
      have hws' : wayF p (legsG lg (i + 1)) = ((s.2.2.1, s.2.2.2.1), sm + dd) := by rw [hws, ← hdd]; rfl
      rw [hdd] at HD
      have B : Aside (i + gk = n ∧ (0 ≤ sm ∧ sm ≤ 1000 * i) ∧ Mem w wr [] [(w.heap.size + 1, [.int .i16 at_.1, .int .i16 at_.2])] ∧ wayF p (legsG lg (i + 1)) = ((s.2.2.1, s.2.2.2.1), sm + dd) ∧ B500 (s.2.2.1, s.2.2.2.1)) := ⟨hik, hsum, HM, hws', hbb.2⟩
      obtain ⟨hd0, hd1⟩ := hd'
      have hs0 := hsum.1
      have hs1 : sm ≤ 60000 := by omega
      clear hd hdd hws hws' hbb hik hsum hat HM hwf
      go_wp2_with (first
        | (go_at_call 141; refine (HQ.out _ B.out.2.2.1.below).mono ?_; rintro e w1 ⟨_, rfl, rfl, hb⟩; have HM1 : Aside (Mem w w1 [] [(w.heap.size + 1, [.int .i16 at_.1, .int .i16 at_.2])]) := B.out.2.2.1.call hb; clear hb; obtain ⟨q0, _⟩ := Mem.cellAt HM1.out 0 (.int .i16 at_.1) rfl; obtain ⟨q1, _⟩ := Mem.cellAt HM1.out 1 (.int .i16 at_.2) rfl; have hsz1 : w.heap.size + 1 < w1.heap.size := (HM1.out.new _ (List.mem_singleton.2 rfl)).2.1)
        | (go_at_call 143; refine (HD.out _).mono ?_; rintro e w2 ⟨_, rfl, rfl, hb⟩; have HM2 : Aside (Mem w w2 [] [(w.heap.size + 1, [.int .i16 at_.1, .int .i16 at_.2])]) := (HM1.out.call (below_alloc (Below.refl _ _))).call hb; obtain ⟨hcb, hfb⟩ := bcell hb; (try simp at hcb hfb); have hs := hb.size; (try simp at hs); clear hb)
        | (refine wpList_store (b := w.heap.size + 1) (off := 0) (cs := [.int .i16 at_.1, .int .i16 at_.2]) (vs := [.int .i16 s.2.2.1, .int .i16 s.2.2.2.1]) HM2.out 0 rfl rfl rfl rfl rfl rfl h28.out rfl rfl ?_; intro w3 hM3; have hM4 : Aside (Mem w w3 [] [(w.heap.size + 1, [.int .i16 s.2.2.1, .int .i16 s.2.2.2.1])]) := hM3; clear hM3))
      obtain ⟨hik, hsum, _, hws, hB⟩ := B.out
      go_roundg (gk - 1)
      · refine ⟨i + 1, ?_, by omega, ?_, ?_, ?_, ?_⟩
        · first
            | (congr 1; done)
            | (congr 1; unfold wrap64; omega)
        · rw [hws]
        · rw [hws]; simp only; omega
        · rw [hws]; exact hB
        · rw [hws]; exact hM4.out
      · omega
    · have hi' : ¬ ((i : Int) < (n : Int)) := by omega
      have hie : i = n := by omega
      go_wp2_with fail
      simp [bodyPost, results, Try.results106, go_sem]
      exact ⟨_, rfl, by rw [← hie, hwf], HM.below⟩
--## d
end Go.Proofs.Ytpaangcbcknhlaa
