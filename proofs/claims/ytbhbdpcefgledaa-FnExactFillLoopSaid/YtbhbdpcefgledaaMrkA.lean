/- Contracts: marks and strokes, by values. -/
import Derived.Test.YtbhbdpcefgledaaBase
import Derived.WalkMore
import Derived.LoopN
import Derived.Deep.LoopGhost
namespace Go.Proofs.Ytbhbdpcefgledaa
--## d
open Go.RowKit
set_option linter.unusedSimpArgs false
set_option linter.unusedVariables false
set_option maxRecDepth 20000
--## d
abbrev mk (x y : Int) : Value := .agg #[.int .i16 x, .int .i16 y]
--## d
abbrev st (a b c d e : Int) : Value := .agg #[.int .i16 a, .int .i16 b, .int .i16 c, .int .i16 d, .int .i8 e]
--## d
def I16 (x : Int) : Prop := -32768 ≤ x ∧ x ≤ 32767
--## d
def I8 (x : Int) : Prop := -128 ≤ x ∧ x ≤ 127
--## d
def inB (x : Int) : Bool := decide (-500 ≤ x) && decide (x ≤ 500)
--## d
def okM (x y : Int) : Bool := inB x && inB y
--## d
def okD (d : Int) : Bool := decide (0 ≤ d) && decide (d ≤ 3)
--## d
set_option maxHeartbeats 400000 in
theorem toMarkA (x y : Int) (w : World) : Calls Try.prog 16 #[mk x y] w (Gives (fun v => v = mk x y) w) := by
  go_enter Try.func16, Try.ntmps16
  go_wp2_with fail
  refine wp_loop_rounds 3 ?_
  repeat any_goals (rw [rounds_succ]; go_wp2_with fail)
  simp [bodyPost, results, Try.results16, go_sem]
  exact ⟨_, rfl, rfl, (by ((try simp only [Hid] at *); repeat' (first | (with_reducible exact Below.refl _ _) | (with_reducible assumption) | (with_reducible refine below_drewN ?_ _) | (with_reducible refine Below.drew ?_) | (with_reducible refine below_alloc ?_) | (with_reducible refine below_set ?_ ?_) | (refine below_step (by with_reducible assumption) ?_) | (simp; done) | (simp; omega) | omega)))⟩
--## d
set_option maxHeartbeats 1000000 in
theorem toStrokeA (a b c d e : Int) (w : World) : Calls Try.prog 40 #[st a b c d e] w (Gives (fun v => v = st a b c d e) w) := by
  go_enter Try.func40, Try.ntmps40
  go_wp2_with (first | (go_at_call 16; refine (toMarkA _ _ _).mono ?_; rintro e w' ⟨_, rfl, rfl, hb⟩; obtain ⟨hc, hf⟩ := bcell hb; (try simp at hc hf); have hs := hb.size; (try simp at hs); (try (have hz0 : w.heap.size < w'.heap.size := (by omega))); (try (have hz1 : w.heap.size + 1 < w'.heap.size := (by omega))); (try (have hz2 : w.heap.size + 1 + 1 < w'.heap.size := (by omega))); (try (have hz3 : w.heap.size + 1 + 1 + 1 < w'.heap.size := (by omega))); have HB := Lib.hid hb; clear hb hs))
  simp [bodyPost, results, Try.results40, go_sem, *]
  exact ⟨_, rfl, rfl, (by ((try simp only [Hid] at *); repeat' (first | (with_reducible exact Below.refl _ _) | (with_reducible assumption) | (with_reducible refine below_drewN ?_ _) | (with_reducible refine Below.drew ?_) | (with_reducible refine below_alloc ?_) | (with_reducible refine below_set ?_ ?_) | (refine below_step (by with_reducible assumption) ?_) | (simp; done) | (simp; omega) | omega)))⟩
--## d
set_option maxHeartbeats 400000 in
theorem l00InA (n l h : Int) (w : World) : Calls Try.prog 46 #[.int .i64 n, .int .i64 l, .int .i64 h] w (Same (isB (decide (l ≤ n) && decide (n ≤ h))) w) := by
  go_enter Try.func46, Try.ntmps46
  go_wp2_with fail
  all_goals
    simp [bodyPost, results, Try.results46, go_sem, *]
    refine ⟨_, rfl, ?_, rfl⟩
    simp [isB]
    try omega
--## d
set_option maxHeartbeats 400000 in
theorem l06MarkA (x y : Int) (hx : I16 x) (hy : I16 y) (w : World) : Calls Try.prog 36 #[mk x y] w (Gives (isB (okM x y)) w) := by
  obtain ⟨hx1, hx2⟩ := hx
  obtain ⟨hy1, hy2⟩ := hy
  go_enter Try.func36, Try.ntmps36
  go_wp2_with (first | (go_at_call 46; refine (l00InA _ _ _ _).mono ?_; rintro e w' ⟨_, rfl, rfl, rfl⟩))
  all_goals
    simp [bodyPost, results, Try.results36, go_sem, *]
    refine ⟨_, rfl, ?_, (by ((try simp only [Hid] at *); repeat' (first | (with_reducible exact Below.refl _ _) | (with_reducible assumption) | (with_reducible refine below_drewN ?_ _) | (with_reducible refine Below.drew ?_) | (with_reducible refine below_alloc ?_) | (with_reducible refine below_set ?_ ?_) | (refine below_step (by with_reducible assumption) ?_) | (simp; done) | (simp; omega) | omega)))⟩
    simp_all [isB, okM, inB]
    try (intros; omega)
--## d
set_option maxHeartbeats 400000 in
theorem l06DashA (d : Int) (w : World) : Calls Try.prog 86 #[.int .i8 d] w (Same (isB (okD d)) w) := by
  go_enter Try.func86, Try.ntmps86
  go_wp2_with fail
  all_goals
    simp [bodyPost, results, Try.results86, go_sem, *]
    refine ⟨_, rfl, ?_, rfl⟩
    simp_all [isB, okD]
    try (intros; omega)
--## d
set_option maxHeartbeats 400000 in
theorem isDashA (d : Int) (w : World) : Calls Try.prog 87 #[.int .i8 d] w (Same (isB (okD d)) w) := by
  go_enter Try.func87, Try.ntmps87
  go_wp2_with fail
  all_goals
    simp [bodyPost, results, Try.results87, go_sem, *]
    refine ⟨_, rfl, ?_, rfl⟩
    simp_all [isB, okD]
    try (intros; omega)
--## d
set_option maxHeartbeats 4000000 in
theorem l06OkA (w : World) (p : Nat) (a b c d e : Int) (ha : I16 a) (hb : I16 b) (hc : I16 c) (hd : I16 d) (h0 : w.cell? ⟨p, 0, none⟩ = some (.int .i16 a)) (h1 : w.cell? ⟨p, 1, none⟩ = some (.int .i16 b)) (h2 : w.cell? ⟨p, 2, none⟩ = some (.int .i16 c)) (h3 : w.cell? ⟨p, 3, none⟩ = some (.int .i16 d)) (h4 : w.cell? ⟨p, 4, none⟩ = some (.int .i8 e)) (hp : p < w.heap.size) : Calls Try.prog 66 #[.pointer (some ⟨p, 0, none⟩)] w (Gives (isB (okM a b && okM c d && okD e)) w) := by
  have H1 : Aside (∀ w, Calls Try.prog 36 #[mk a b] w (Gives (isB (okM a b)) w)) := l06MarkA a b ha hb
  have H2 : Aside (∀ w, Calls Try.prog 36 #[mk c d] w (Gives (isB (okM c d)) w)) := l06MarkA c d hc hd
  have H3 : Aside (∀ w, Calls Try.prog 86 #[.int .i8 e] w (Same (isB (okD e)) w)) := l06DashA e
  clear ha hb hc hd
  generalize okM a b = p1 at *
  generalize okM c d = p2 at *
  generalize okD e = p3 at *
  have t1 : True := trivial
  cases p1 <;> cases p2 <;> cases p3
  all_goals
    go_enter Try.func66, Try.ntmps66
    go_wp2_with (first | (clear t1; go_at_call 36; refine (H1.out _).mono ?_; rintro e w' ⟨_, rfl, rfl, hb⟩; obtain ⟨hc, hf⟩ := bcell hb; (try simp at hc hf); have hs := hb.size; (try simp at hs); (try (have hz0 : w.heap.size < w'.heap.size := (by omega))); (try (have hz1 : w.heap.size + 1 < w'.heap.size := (by omega))); (try (have hz2 : w.heap.size + 1 + 1 < w'.heap.size := (by omega))); (try (have hz3 : w.heap.size + 1 + 1 + 1 < w'.heap.size := (by omega))); (try (have hzp : p < w'.heap.size := (by omega))); have HB := Lib.hid hb; clear hb hs) | (go_at_call 36; refine (H2.out _).mono ?_; rintro e w' ⟨_, rfl, rfl, hb⟩; obtain ⟨hc, hf⟩ := bcell hb; (try simp at hc hf); have hs := hb.size; (try simp at hs); (try (have hz0 : w.heap.size < w'.heap.size := (by omega))); (try (have hz1 : w.heap.size + 1 < w'.heap.size := (by omega))); (try (have hz2 : w.heap.size + 1 + 1 < w'.heap.size := (by omega))); (try (have hz3 : w.heap.size + 1 + 1 + 1 < w'.heap.size := (by omega))); (try (have hzp : p < w'.heap.size := (by omega))); have HB := Lib.hid hb; clear hb hs) | (go_at_call 86; refine (H3.out _).mono ?_; rintro e w' ⟨_, rfl, rfl, rfl⟩))
    simp [bodyPost, results, Try.results66, go_sem, *]
    refine ⟨_, rfl, ?_, (by ((try simp only [Hid] at *); repeat' (first | (with_reducible exact Below.refl _ _) | (with_reducible assumption) | (with_reducible refine below_drewN ?_ _) | (with_reducible refine Below.drew ?_) | (with_reducible refine below_alloc ?_) | (with_reducible refine below_set ?_ ?_) | (refine below_step (by with_reducible assumption) ?_) | (simp; done) | (simp; omega) | omega)))⟩
    simp_all [isB]
--## d
set_option maxHeartbeats 1000000 in
theorem isWithinA (x y a b c d : Int) (w : World) : Calls Try.prog 81 #[mk x y, mk a b, mk c d] w (Gives (isB (decide (a ≤ x) && decide (x ≤ c) && decide (b ≤ y) && decide (y ≤ d))) w) := by
  go_enter Try.func81, Try.ntmps81
  go_wp2_with fail
  all_goals
    simp [bodyPost, results, Try.results81, go_sem, *]
    refine ⟨_, rfl, ?_, (by ((try simp only [Hid] at *); repeat' (first | (with_reducible exact Below.refl _ _) | (with_reducible assumption) | (with_reducible refine below_drewN ?_ _) | (with_reducible refine Below.drew ?_) | (with_reducible refine below_alloc ?_) | (with_reducible refine below_set ?_ ?_) | (refine below_step (by with_reducible assumption) ?_) | (simp; done) | (simp; omega) | omega)))⟩
    simp_all [isB]
    try (intros; omega)
--## d
set_option maxHeartbeats 1000000 in
theorem isValidA (x y : Int) (w : World) : Calls Try.prog 61 #[mk x y] w (Gives (isB (okM x y)) w) := by
  go_enter Try.func61, Try.ntmps61
  go_wp2_with (first | (go_at_call 81; refine (isWithinA _ _ _ _ _ _ _).mono ?_; rintro e w' ⟨_, rfl, rfl, hb⟩; obtain ⟨hc, hf⟩ := bcell hb; (try simp at hc hf); have hs := hb.size; (try simp at hs); (try (have hz0 : w.heap.size < w'.heap.size := (by omega))); (try (have hz1 : w.heap.size + 1 < w'.heap.size := (by omega))); (try (have hz2 : w.heap.size + 1 + 1 < w'.heap.size := (by omega))); (try (have hz3 : w.heap.size + 1 + 1 + 1 < w'.heap.size := (by omega))); have HB := Lib.hid hb; clear hb hs))
  all_goals
    simp [bodyPost, results, Try.results61, go_sem, *]
    refine ⟨_, rfl, ?_, (by ((try simp only [Hid] at *); repeat' (first | (with_reducible exact Below.refl _ _) | (with_reducible assumption) | (with_reducible refine below_drewN ?_ _) | (with_reducible refine Below.drew ?_) | (with_reducible refine below_alloc ?_) | (with_reducible refine below_set ?_ ?_) | (refine below_step (by with_reducible assumption) ?_) | (simp; done) | (simp; omega) | omega)))⟩
    simp [isB, okM, inB, Bool.and_assoc]
--## d
set_option maxHeartbeats 1000000 in
theorem validMarks1A (x y : Int) (w : World) : Calls Try.prog 60 #[mk x y] w (Gives (isB (!okM x y)) w) := by
  go_enter Try.func60, Try.ntmps60
  go_wp2_with (first | (go_at_call 61; refine (isValidA _ _ _).mono ?_; rintro e w' ⟨_, rfl, rfl, hb⟩; obtain ⟨hc, hf⟩ := bcell hb; (try simp at hc hf); have hs := hb.size; (try simp at hs); (try (have hz0 : w.heap.size < w'.heap.size := (by omega))); (try (have hz1 : w.heap.size + 1 < w'.heap.size := (by omega))); (try (have hz2 : w.heap.size + 1 + 1 < w'.heap.size := (by omega))); (try (have hz3 : w.heap.size + 1 + 1 + 1 < w'.heap.size := (by omega))); have HB := Lib.hid hb; clear hb hs))
  all_goals
    simp [bodyPost, results, Try.results60, go_sem, *]
    exact ⟨_, rfl, rfl, (by ((try simp only [Hid] at *); repeat' (first | (with_reducible exact Below.refl _ _) | (with_reducible assumption) | (with_reducible refine below_drewN ?_ _) | (with_reducible refine Below.drew ?_) | (with_reducible refine below_alloc ?_) | (with_reducible refine below_set ?_ ?_) | (refine below_step (by with_reducible assumption) ?_) | (simp; done) | (simp; omega) | omega)))⟩
--## d
end Go.Proofs.Ytbhbdpcefgledaa
