/- Contracts: which marks are drawn; distances. -/
import Derived.Test.YtbhbdpcefgledaaMrkA
namespace Go.Proofs.Ytbhbdpcefgledaa
--## d
open Go.RowKit
set_option linter.unusedSimpArgs false
set_option linter.unusedVariables false
set_option maxRecDepth 20000
--## d
def drawnF (d k : Int) : Bool := if d = 0 then true else if d = 1 then decide (k % 6 < 4) else if d = 2 then k % 2 == 0 else if d = 3 then decide (k % 8 < 5) || k % 8 == 6 else false
--## d
def farF (n : Int) : Int := if n < 0 then -n else n
--## d
def maxF (a b : Int) : Int := if a < b then b else a
--## d
def distF (a b c d : Int) : Int := maxF (farF (a - c)) (farF (b - d))
--## d
set_option maxHeartbeats 400000 in
theorem isInFullA (k : Int) (hk : 0 ≤ k) (hk2 : k ≤ 9223372036854775807) (w : World) : Calls Try.prog 93 #[.int .i64 k] w (Gives (isB (true)) w) := by
  go_enter Try.func93, Try.ntmps93
  go_wp2_with fail
  all_goals
    simp [bodyPost, results, Try.results93, go_sem, *]
    refine ⟨_, rfl, ?_, (by ((try simp only [Hid] at *); repeat' (first | (with_reducible exact Below.refl _ _) | (with_reducible assumption) | (with_reducible refine below_drewN ?_ _) | (with_reducible refine Below.drew ?_) | (with_reducible refine below_alloc ?_) | (with_reducible refine below_set ?_ ?_) | (refine below_step (by with_reducible assumption) ?_) | (simp; done) | (simp; omega) | omega)))⟩
    simp_all [isB]
    try omega
--## d
set_option maxHeartbeats 400000 in
theorem isInDashedA (k : Int) (hk : 0 ≤ k) (hk2 : k ≤ 9223372036854775807) (w : World) : Calls Try.prog 94 #[.int .i64 k] w (Gives (isB (decide (k % 6 < 4))) w) := by
  go_enter Try.func94, Try.ntmps94
  go_wp2_with fail
  all_goals
    simp [bodyPost, results, Try.results94, go_sem, *]
    refine ⟨_, rfl, ?_, (by ((try simp only [Hid] at *); repeat' (first | (with_reducible exact Below.refl _ _) | (with_reducible assumption) | (with_reducible refine below_drewN ?_ _) | (with_reducible refine Below.drew ?_) | (with_reducible refine below_alloc ?_) | (with_reducible refine below_set ?_ ?_) | (refine below_step (by with_reducible assumption) ?_) | (simp; done) | (simp; omega) | omega)))⟩
    simp_all [isB]
    try omega
--## d
set_option maxHeartbeats 400000 in
theorem isInDottedA (k : Int) (hk : 0 ≤ k) (hk2 : k ≤ 9223372036854775807) (w : World) : Calls Try.prog 95 #[.int .i64 k] w (Gives (isB (k % 2 == 0)) w) := by
  go_enter Try.func95, Try.ntmps95
  go_wp2_with fail
  all_goals
    simp [bodyPost, results, Try.results95, go_sem, *]
    refine ⟨_, rfl, ?_, (by ((try simp only [Hid] at *); repeat' (first | (with_reducible exact Below.refl _ _) | (with_reducible assumption) | (with_reducible refine below_drewN ?_ _) | (with_reducible refine Below.drew ?_) | (with_reducible refine below_alloc ?_) | (with_reducible refine below_set ?_ ?_) | (refine below_step (by with_reducible assumption) ?_) | (simp; done) | (simp; omega) | omega)))⟩
    simp_all [isB]
    try omega
--## d
set_option maxHeartbeats 400000 in
theorem isInChainA (k : Int) (hk : 0 ≤ k) (hk2 : k ≤ 9223372036854775807) (w : World) : Calls Try.prog 96 #[.int .i64 k] w (Gives (isB (decide (k % 8 < 5) || k % 8 == 6)) w) := by
  go_enter Try.func96, Try.ntmps96
  go_wp2_with fail
  all_goals
    simp [bodyPost, results, Try.results96, go_sem, *]
    refine ⟨_, rfl, ?_, (by ((try simp only [Hid] at *); repeat' (first | (with_reducible exact Below.refl _ _) | (with_reducible assumption) | (with_reducible refine below_drewN ?_ _) | (with_reducible refine Below.drew ?_) | (with_reducible refine below_alloc ?_) | (with_reducible refine below_set ?_ ?_) | (refine below_step (by with_reducible assumption) ?_) | (simp; done) | (simp; omega) | omega)))⟩
    simp_all [isB]
    try omega
--## d
set_option maxHeartbeats 4000000 in
theorem IsDrawnI (d k : Int) (hd : I8 d) (hk : -9223372036854775808 ≤ k) (hk2 : k ≤ 9223372036854775807) (w : World) : Calls Try.prog 85 #[.int .i8 d, .int .i64 k] w (Gives (isB (decide (0 ≤ k) && drawnF d k)) w) := by
  by_cases hk0 : 0 ≤ k
  · have hs : d = 0 ∨ d = 1 ∨ d = 2 ∨ d = 3 ∨ (okD d = false ∧ d ≠ 0 ∧ d ≠ 1 ∧ d ≠ 2 ∧ d ≠ 3) := by unfold okD; simp; omega
    rcases hs with rfl | rfl | rfl | rfl | ⟨ho, hn0, hn1, hn2, hn3⟩
    · go_enter Try.func85, Try.ntmps85
      go_wp2_with (first | (go_at_call 87; refine (isDashA _ _).mono ?_; rintro e w' ⟨_, rfl, rfl, rfl⟩) | (go_at_call 93; refine (isInFullA _ (by assumption) hk2 _).mono ?_; rintro e w' ⟨_, rfl, rfl, hb⟩; have HB := Lib.hid hb; clear hb) | (go_at_call 94; refine (isInDashedA _ (by assumption) hk2 _).mono ?_; rintro e w' ⟨_, rfl, rfl, hb⟩; have HB := Lib.hid hb; clear hb) | (go_at_call 95; refine (isInDottedA _ (by assumption) hk2 _).mono ?_; rintro e w' ⟨_, rfl, rfl, hb⟩; have HB := Lib.hid hb; clear hb) | (go_at_call 96; refine (isInChainA _ (by assumption) hk2 _).mono ?_; rintro e w' ⟨_, rfl, rfl, hb⟩; have HB := Lib.hid hb; clear hb))
      all_goals
        simp [bodyPost, results, Try.results85, go_sem, *]
        refine ⟨_, rfl, ?_, (by ((try simp only [Hid] at *); repeat' (first | (with_reducible exact Below.refl _ _) | (with_reducible assumption) | (with_reducible refine below_drewN ?_ _) | (with_reducible refine Below.drew ?_) | (with_reducible refine below_alloc ?_) | (with_reducible refine below_set ?_ ?_) | (refine below_step (by with_reducible assumption) ?_) | (simp; done) | (simp; omega) | omega)))⟩
        try simp_all [isB, drawnF, okD]
    · go_enter Try.func85, Try.ntmps85
      go_wp2_with (first | (go_at_call 87; refine (isDashA _ _).mono ?_; rintro e w' ⟨_, rfl, rfl, rfl⟩) | (go_at_call 93; refine (isInFullA _ (by assumption) hk2 _).mono ?_; rintro e w' ⟨_, rfl, rfl, hb⟩; have HB := Lib.hid hb; clear hb) | (go_at_call 94; refine (isInDashedA _ (by assumption) hk2 _).mono ?_; rintro e w' ⟨_, rfl, rfl, hb⟩; have HB := Lib.hid hb; clear hb) | (go_at_call 95; refine (isInDottedA _ (by assumption) hk2 _).mono ?_; rintro e w' ⟨_, rfl, rfl, hb⟩; have HB := Lib.hid hb; clear hb) | (go_at_call 96; refine (isInChainA _ (by assumption) hk2 _).mono ?_; rintro e w' ⟨_, rfl, rfl, hb⟩; have HB := Lib.hid hb; clear hb))
      all_goals
        simp [bodyPost, results, Try.results85, go_sem, *]
        refine ⟨_, rfl, ?_, (by ((try simp only [Hid] at *); repeat' (first | (with_reducible exact Below.refl _ _) | (with_reducible assumption) | (with_reducible refine below_drewN ?_ _) | (with_reducible refine Below.drew ?_) | (with_reducible refine below_alloc ?_) | (with_reducible refine below_set ?_ ?_) | (refine below_step (by with_reducible assumption) ?_) | (simp; done) | (simp; omega) | omega)))⟩
        try simp_all [isB, drawnF, okD]
    · go_enter Try.func85, Try.ntmps85
      go_wp2_with (first | (go_at_call 87; refine (isDashA _ _).mono ?_; rintro e w' ⟨_, rfl, rfl, rfl⟩) | (go_at_call 93; refine (isInFullA _ (by assumption) hk2 _).mono ?_; rintro e w' ⟨_, rfl, rfl, hb⟩; have HB := Lib.hid hb; clear hb) | (go_at_call 94; refine (isInDashedA _ (by assumption) hk2 _).mono ?_; rintro e w' ⟨_, rfl, rfl, hb⟩; have HB := Lib.hid hb; clear hb) | (go_at_call 95; refine (isInDottedA _ (by assumption) hk2 _).mono ?_; rintro e w' ⟨_, rfl, rfl, hb⟩; have HB := Lib.hid hb; clear hb) | (go_at_call 96; refine (isInChainA _ (by assumption) hk2 _).mono ?_; rintro e w' ⟨_, rfl, rfl, hb⟩; have HB := Lib.hid hb; clear hb))
      all_goals
        simp [bodyPost, results, Try.results85, go_sem, *]
        refine ⟨_, rfl, ?_, (by ((try simp only [Hid] at *); repeat' (first | (with_reducible exact Below.refl _ _) | (with_reducible assumption) | (with_reducible refine below_drewN ?_ _) | (with_reducible refine Below.drew ?_) | (with_reducible refine below_alloc ?_) | (with_reducible refine below_set ?_ ?_) | (refine below_step (by with_reducible assumption) ?_) | (simp; done) | (simp; omega) | omega)))⟩
        try simp_all [isB, drawnF, okD]
    · go_enter Try.func85, Try.ntmps85
      go_wp2_with (first | (go_at_call 87; refine (isDashA _ _).mono ?_; rintro e w' ⟨_, rfl, rfl, rfl⟩) | (go_at_call 93; refine (isInFullA _ (by assumption) hk2 _).mono ?_; rintro e w' ⟨_, rfl, rfl, hb⟩; have HB := Lib.hid hb; clear hb) | (go_at_call 94; refine (isInDashedA _ (by assumption) hk2 _).mono ?_; rintro e w' ⟨_, rfl, rfl, hb⟩; have HB := Lib.hid hb; clear hb) | (go_at_call 95; refine (isInDottedA _ (by assumption) hk2 _).mono ?_; rintro e w' ⟨_, rfl, rfl, hb⟩; have HB := Lib.hid hb; clear hb) | (go_at_call 96; refine (isInChainA _ (by assumption) hk2 _).mono ?_; rintro e w' ⟨_, rfl, rfl, hb⟩; have HB := Lib.hid hb; clear hb))
      all_goals
        simp [bodyPost, results, Try.results85, go_sem, *]
        refine ⟨_, rfl, ?_, (by ((try simp only [Hid] at *); repeat' (first | (with_reducible exact Below.refl _ _) | (with_reducible assumption) | (with_reducible refine below_drewN ?_ _) | (with_reducible refine Below.drew ?_) | (with_reducible refine below_alloc ?_) | (with_reducible refine below_set ?_ ?_) | (refine below_step (by with_reducible assumption) ?_) | (simp; done) | (simp; omega) | omega)))⟩
        try simp_all [isB, drawnF, okD]
    · have hz : (decide (0 ≤ k) && drawnF d k) = false := by simp [drawnF, *]
      rw [hz]
      clear hz
      go_enter Try.func85, Try.ntmps85
      go_wp2_with (first | (go_at_call 87; refine (isDashA _ _).mono ?_; rw [ho]; rintro e w' ⟨_, rfl, rfl, rfl⟩))
      all_goals
        simp [bodyPost, results, Try.results85, go_sem, *]
        exact ⟨_, rfl, rfl, (by ((try simp only [Hid] at *); repeat' (first | (with_reducible exact Below.refl _ _) | (with_reducible assumption) | (with_reducible refine below_drewN ?_ _) | (with_reducible refine Below.drew ?_) | (with_reducible refine below_alloc ?_) | (with_reducible refine below_set ?_ ?_) | (refine below_step (by with_reducible assumption) ?_) | (simp; done) | (simp; omega) | omega)))⟩
  · have hz : (decide (0 ≤ k) && drawnF d k) = false := by simp [*]
    rw [hz]
    clear hz
    have hk3 : k < 0 := by omega
    cases ho : okD d
    all_goals
      go_enter Try.func85, Try.ntmps85
      go_wp2_with (first | (go_at_call 87; refine (isDashA _ _).mono ?_; rw [ho]; rintro e w' ⟨_, rfl, rfl, rfl⟩))
      all_goals
        simp [bodyPost, results, Try.results85, go_sem, *]
        exact ⟨_, rfl, rfl, (by ((try simp only [Hid] at *); repeat' (first | (with_reducible exact Below.refl _ _) | (with_reducible assumption) | (with_reducible refine below_drewN ?_ _) | (with_reducible refine Below.drew ?_) | (with_reducible refine below_alloc ?_) | (with_reducible refine below_set ?_ ?_) | (refine below_step (by with_reducible assumption) ?_) | (simp; done) | (simp; omega) | omega)))⟩
--## d
@[go_sem] theorem run_max4 {P : Program} {w : World} (ts : Array TypeId) (t : TypeId) (k : IntKind) (a b c d : Int) : Sem.run P (Builtin.max_ ts t #[.int k a, .int k b, .int k c, .int k d]) w = .ok (.int k (maxF (maxF (maxF a b) c) d)) w := rfl
theorem dist_max (a b c d : Int) : maxF (maxF (maxF (c - a) (-(c - a))) (d - b)) (-(d - b)) = distF a b c d := by
  unfold distF maxF farF
  repeat' split
  all_goals omega
--## d
set_option maxHeartbeats 400000 in
theorem l06FarA (n : Int) (hk : -9223372036854775807 ≤ n) (hk2 : n ≤ 9223372036854775807) (w : World) : Calls Try.prog 68 #[.int .i64 n] w (Same (fun v => v = .int .i64 (farF n)) w) := by
  go_enter Try.func68, Try.ntmps68
  go_wp2_with fail
  all_goals
    simp [bodyPost, results, Try.results68, go_sem, *]
    refine ⟨_, rfl, ?_, rfl⟩
    simp_all [farF]
    try omega
--## d
set_option maxHeartbeats 400000 in
theorem l00MaxA (a b : Int) (w : World) : Calls Try.prog 67 #[.int .i64 a, .int .i64 b] w (Same (fun v => v = .int .i64 (maxF a b)) w) := by
  go_enter Try.func67, Try.ntmps67
  go_wp2_with fail
  all_goals
    simp [bodyPost, results, Try.results67, go_sem, *]
    refine ⟨_, rfl, ?_, rfl⟩
    simp_all [maxF]
    try omega
--## d
set_option maxHeartbeats 400000 in
theorem lessI (a b c d : Int) (ha : I16 a) (hb : I16 b) (hc : I16 c) (hd : I16 d) (w : World) : Calls Try.prog 88 #[mk a b, mk c d] w (Gives (fun v => v = .agg #[.int .i64 (a - c), .int .i64 (b - d)]) w) := by
  obtain ⟨ha1, ha2⟩ := ha
  obtain ⟨hb1, hb2⟩ := hb
  obtain ⟨hc1, hc2⟩ := hc
  obtain ⟨hd1, hd2⟩ := hd
  go_enter Try.func88, Try.ntmps88
  go_wp2_with fail
  simp [bodyPost, results, Try.results88, go_sem, *]
  exact ⟨_, rfl, rfl, (by ((try simp only [Hid] at *); repeat' (first | (with_reducible exact Below.refl _ _) | (with_reducible assumption) | (with_reducible refine below_drewN ?_ _) | (with_reducible refine Below.drew ?_) | (with_reducible refine below_alloc ?_) | (with_reducible refine below_set ?_ ?_) | (refine below_step (by with_reducible assumption) ?_) | (simp; done) | (simp; omega) | omega)))⟩
--## d
set_option maxHeartbeats 400000 in
theorem DistanceOfI (a b c d : Int) (ha : I16 a) (hb : I16 b) (hc : I16 c) (hd : I16 d) (w : World) : Calls Try.prog 71 #[mk a b, mk c d] w (Gives (fun v => v = .int .i64 (distF a b c d)) w) := by
  have H := lessI c d a b hc hd ha hb
  obtain ⟨ha1, ha2⟩ := ha
  obtain ⟨hb1, hb2⟩ := hb
  obtain ⟨hc1, hc2⟩ := hc
  obtain ⟨hd1, hd2⟩ := hd
  go_enter Try.func71, Try.ntmps71
  go_wp2_with (first | (go_at_call 88; refine (H _).mono ?_; rintro e w' ⟨_, rfl, rfl, hb⟩; obtain ⟨hc, hf⟩ := bcell hb; (try simp at hc hf); have hs := hb.size; (try simp at hs); (try (have hz0 : w.heap.size < w'.heap.size := (by omega))); (try (have hz1 : w.heap.size + 1 < w'.heap.size := (by omega))); (try (have hz2 : w.heap.size + 1 + 1 < w'.heap.size := (by omega))); (try (have hz3 : w.heap.size + 1 + 1 + 1 < w'.heap.size := (by omega))); have HB := Lib.hid hb; clear hb hs))
  simp [bodyPost, results, Try.results71, go_sem, *]
  exact ⟨_, rfl, by rw [dist_max], (by ((try simp only [Hid] at *); repeat' (first | (with_reducible exact Below.refl _ _) | (with_reducible assumption) | (with_reducible refine below_drewN ?_ _) | (with_reducible refine Below.drew ?_) | (with_reducible refine below_alloc ?_) | (with_reducible refine below_set ?_ ?_) | (refine below_step (by with_reducible assumption) ?_) | (simp; done) | (simp; omega) | omega)))⟩
--## d
theorem wrapIn (x : Int) (h1 : -9223372036854775808 ≤ x) (h2 : x ≤ 9223372036854775807) : IntKind.i64.wrap x = x := by
  rw [IntKind.wrap_i64]
  omega
--## d
set_option maxHeartbeats 4000000 in
theorem l06DistanceA (a b c d : Int) (ha : I16 a) (hb : I16 b) (hc : I16 c) (hd : I16 d) (w : World) : Calls Try.prog 37 #[mk a b, mk c d] w (Gives (fun v => v = .int .i64 (distF a b c d)) w) := by
  obtain ⟨ha1, ha2⟩ := ha
  obtain ⟨hb1, hb2⟩ := hb
  obtain ⟨hc1, hc2⟩ := hc
  obtain ⟨hd1, hd2⟩ := hd
  have hK : ∀ W, Below (w.heap.size + 1 + 1) ((w.alloc (.cells #[.int .i16 a, .int .i16 b] 45)).alloc (.cells #[.int .i16 c, .int .i16 d] 45)) W → W.cell? ⟨w.heap.size, 0, none⟩ = some (.int .i16 a) ∧ W.cell? ⟨w.heap.size, 1, none⟩ = some (.int .i16 b) ∧ W.cell? ⟨w.heap.size + 1, 0, none⟩ = some (.int .i16 c) ∧ W.cell? ⟨w.heap.size + 1, 1, none⟩ = some (.int .i16 d) ∧ Below (w.heap.size + 1 + 1) ((w.alloc (.cells #[.int .i16 a, .int .i16 b] 45)).alloc (.cells #[.int .i16 c, .int .i16 d] 45)) W := fun W hB => by
    obtain ⟨hcc, hff⟩ := bcell (W := ((w.alloc (.cells #[.int .i16 a, .int .i16 b] 45)).alloc (.cells #[.int .i16 c, .int .i16 d] 45))) (w1 := W) (by simpa using hB)
    simp at hcc
    refine ⟨?_, ?_, ?_, ?_, hB⟩
    all_goals
      rw [hcc _ _ (by omega)]
      simp [go_sem]
  have hL : ∀ W, Below (w.heap.size + 1 + 1) ((w.alloc (.cells #[.int .i16 a, .int .i16 b] 45)).alloc (.cells #[.int .i16 c, .int .i16 d] 45)) W → Below w.heap.size w W := fun W hB => (below_alloc (below_alloc (Below.refl _ _))).trans (hB.mono (by omega))
  have ea : IntKind.i64.wrap a = a := wrapIn _ (by omega) (by omega)
  have eb : IntKind.i64.wrap b = b := wrapIn _ (by omega) (by omega)
  have ec : IntKind.i64.wrap c = c := wrapIn _ (by omega) (by omega)
  have ed : IntKind.i64.wrap d = d := wrapIn _ (by omega) (by omega)
  have F1 := l06FarA (a - c) (by omega) (by omega)
  have F2 := l06FarA (b - d) (by omega) (by omega)
  have e1 : IntKind.i64.wrap (a - c) = a - c := wrapIn _ (by omega) (by omega)
  have e2 : IntKind.i64.wrap (b - d) = b - d := wrapIn _ (by omega) (by omega)
  go_enter Try.func37, Try.ntmps37
  go_wp2_with fail
  go_region_held3 (fun W => W.cell? ⟨w.heap.size, 0, none⟩ = some (.int .i16 a) ∧ W.cell? ⟨w.heap.size, 1, none⟩ = some (.int .i16 b) ∧ W.cell? ⟨w.heap.size + 1, 0, none⟩ = some (.int .i16 c) ∧ W.cell? ⟨w.heap.size + 1, 1, none⟩ = some (.int .i16 d) ∧ Below (w.heap.size + 1 + 1) ((w.alloc (.cells #[.int .i16 a, .int .i16 b] 45)).alloc (.cells #[.int .i16 c, .int .i16 d] 45)) W) (first | exact hK _ (Below.refl _ _) | exact hK _ (Below.drew (Below.refl _ _)) | assumption | exact hK _ (And.right (And.right (And.right (And.right (by assumption))))) | exact hK _ (Below.drew (And.right (And.right (And.right (And.right (by assumption)))))) | go_keep) (first | (go_at_call 68; (try simp only [ea, ec, e1]); refine (F1 _).mono ?_; rintro e w' ⟨_, rfl, rfl, rfl⟩) | (go_at_call 68; (try simp only [eb, ed, e2]); refine (F2 _).mono ?_; rintro e w' ⟨_, rfl, rfl, rfl⟩) | (go_at_call 67; refine (l00MaxA _ _ _).mono ?_; rintro e w' ⟨_, rfl, rfl, rfl⟩))
  all_goals go_wp2_with fail
  all_goals
    simp [bodyPost, results, Try.results37, go_sem]
    exact ⟨_, rfl, rfl, by first | exact hL _ (And.right (And.right (And.right (And.right (by assumption))))) | exact hL _ (Below.refl _ _) | exact hL _ (Below.drew (Below.refl _ _))⟩
--## d
end Go.Proofs.Ytbhbdpcefgledaa
