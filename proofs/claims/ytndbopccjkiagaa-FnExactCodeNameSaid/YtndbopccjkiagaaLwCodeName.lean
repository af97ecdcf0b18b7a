--## law
/- The law FnExactCodeName: for every input the function CodeName answers as its model, and the law returns true. No condition. -/
import Derived.Test.YtndbopccjkiagaaOpen
import Derived.Test.YtndbopccjkiagaaBase
namespace Go.Proofs.Ytndbopccjkiagaa.lawExactCodeName
open Go.ChangeShapes Go.WideShapes Go.ChangeAt Go.RowKit Go.Flo
open Go.ChangeMaps (open_string shut_string)
set_option linter.unusedSimpArgs false
set_option linter.unusedVariables false
def nm (n : Int) : Value := if n = 0 then (Value.string ⟨#[111, 107]⟩) else if n = 1 then (Value.string ⟨#[105, 110, 118, 97, 108, 105, 100]⟩) else if n = 2 then (Value.string ⟨#[114, 97, 110, 103, 101]⟩) else if n = 3 then (Value.string ⟨#[108, 105, 109, 105, 116]⟩) else if n = 4 then (Value.string ⟨#[115, 116, 97, 116, 101]⟩) else if n = 5 then (Value.string ⟨#[115, 121, 110, 116, 97, 120]⟩) else if n = 6 then (Value.string ⟨#[110, 111, 116, 102, 111, 117, 110, 100]⟩) else if n = 7 then (Value.string ⟨#[98, 117, 100, 103, 101, 116]⟩) else if n = 8 then (Value.string ⟨#[112, 114, 111, 111, 102]⟩) else .string ⟨#[]⟩
theorem l00In_any (n a b : Int) (w : World) : Calls Try.prog 121 #[.int .i64 n, .int .i64 a, .int .i64 b] w (Same (isB (decide (a ≤ n) && decide (n ≤ b))) w) := by
  by_cases h0 : a ≤ n <;> by_cases h1 : n ≤ b
  all_goals
    go_enter Try.func121, Try.ntmps121
    go_wp2
  all_goals
    simp [bodyPost, results, Try.results121, go_sem]
    refine ⟨_, rfl, ?_, rfl⟩
    unfold isB
    first
      | (simp [h0, h1]; done)
      | (simp_all; done)
      | (simp_all; omega)

set_option maxHeartbeats 400000 in
theorem CodeNameS0 (w : World) : Calls Try.prog 56 #[.int .i64 0] w (Gives (fun v => v = (Value.string ⟨#[111, 107]⟩)) w) := by
  go_enter Try.func56, Try.ntmps56
  go_wp2_with (first | (go_at_call 121; refine (l00In_any _ _ _ _).mono ?_; rintro e w' ⟨_, rfl, rfl, rfl⟩))
  simp [bodyPost, results, Try.results56, go_sem]
  refine ⟨_, rfl, rfl, by ((try simp only [Hid] at *); repeat' (first | (with_reducible exact Below.refl _ _) | (with_reducible assumption) | (with_reducible refine below_drewN ?_ _) | (with_reducible refine Below.drew ?_) | (with_reducible refine below_alloc ?_) | (with_reducible refine below_set ?_ ?_) | (refine below_step (by with_reducible assumption) ?_) | (simp; done) | (simp; omega) | omega))⟩

set_option maxHeartbeats 400000 in
theorem CodeNameS1 (w : World) : Calls Try.prog 56 #[.int .i64 1] w (Gives (fun v => v = (Value.string ⟨#[105, 110, 118, 97, 108, 105, 100]⟩)) w) := by
  go_enter Try.func56, Try.ntmps56
  go_wp2_with (first | (go_at_call 121; refine (l00In_any _ _ _ _).mono ?_; rintro e w' ⟨_, rfl, rfl, rfl⟩))
  simp [bodyPost, results, Try.results56, go_sem]
  refine ⟨_, rfl, rfl, by ((try simp only [Hid] at *); repeat' (first | (with_reducible exact Below.refl _ _) | (with_reducible assumption) | (with_reducible refine below_drewN ?_ _) | (with_reducible refine Below.drew ?_) | (with_reducible refine below_alloc ?_) | (with_reducible refine below_set ?_ ?_) | (refine below_step (by with_reducible assumption) ?_) | (simp; done) | (simp; omega) | omega))⟩

set_option maxHeartbeats 400000 in
theorem CodeNameS2 (w : World) : Calls Try.prog 56 #[.int .i64 2] w (Gives (fun v => v = (Value.string ⟨#[114, 97, 110, 103, 101]⟩)) w) := by
  go_enter Try.func56, Try.ntmps56
  go_wp2_with (first | (go_at_call 121; refine (l00In_any _ _ _ _).mono ?_; rintro e w' ⟨_, rfl, rfl, rfl⟩))
  simp [bodyPost, results, Try.results56, go_sem]
  refine ⟨_, rfl, rfl, by ((try simp only [Hid] at *); repeat' (first | (with_reducible exact Below.refl _ _) | (with_reducible assumption) | (with_reducible refine below_drewN ?_ _) | (with_reducible refine Below.drew ?_) | (with_reducible refine below_alloc ?_) | (with_reducible refine below_set ?_ ?_) | (refine below_step (by with_reducible assumption) ?_) | (simp; done) | (simp; omega) | omega))⟩

set_option maxHeartbeats 400000 in
theorem CodeNameS3 (w : World) : Calls Try.prog 56 #[.int .i64 3] w (Gives (fun v => v = (Value.string ⟨#[108, 105, 109, 105, 116]⟩)) w) := by
  go_enter Try.func56, Try.ntmps56
  go_wp2_with (first | (go_at_call 121; refine (l00In_any _ _ _ _).mono ?_; rintro e w' ⟨_, rfl, rfl, rfl⟩))
  simp [bodyPost, results, Try.results56, go_sem]
  refine ⟨_, rfl, rfl, by ((try simp only [Hid] at *); repeat' (first | (with_reducible exact Below.refl _ _) | (with_reducible assumption) | (with_reducible refine below_drewN ?_ _) | (with_reducible refine Below.drew ?_) | (with_reducible refine below_alloc ?_) | (with_reducible refine below_set ?_ ?_) | (refine below_step (by with_reducible assumption) ?_) | (simp; done) | (simp; omega) | omega))⟩

set_option maxHeartbeats 400000 in
theorem CodeNameS4 (w : World) : Calls Try.prog 56 #[.int .i64 4] w (Gives (fun v => v = (Value.string ⟨#[115, 116, 97, 116, 101]⟩)) w) := by
  go_enter Try.func56, Try.ntmps56
  go_wp2_with (first | (go_at_call 121; refine (l00In_any _ _ _ _).mono ?_; rintro e w' ⟨_, rfl, rfl, rfl⟩))
  simp [bodyPost, results, Try.results56, go_sem]
  refine ⟨_, rfl, rfl, by ((try simp only [Hid] at *); repeat' (first | (with_reducible exact Below.refl _ _) | (with_reducible assumption) | (with_reducible refine below_drewN ?_ _) | (with_reducible refine Below.drew ?_) | (with_reducible refine below_alloc ?_) | (with_reducible refine below_set ?_ ?_) | (refine below_step (by with_reducible assumption) ?_) | (simp; done) | (simp; omega) | omega))⟩

set_option maxHeartbeats 400000 in
theorem CodeNameS5 (w : World) : Calls Try.prog 56 #[.int .i64 5] w (Gives (fun v => v = (Value.string ⟨#[115, 121, 110, 116, 97, 120]⟩)) w) := by
  go_enter Try.func56, Try.ntmps56
  go_wp2_with (first | (go_at_call 121; refine (l00In_any _ _ _ _).mono ?_; rintro e w' ⟨_, rfl, rfl, rfl⟩))
  simp [bodyPost, results, Try.results56, go_sem]
  refine ⟨_, rfl, rfl, by ((try simp only [Hid] at *); repeat' (first | (with_reducible exact Below.refl _ _) | (with_reducible assumption) | (with_reducible refine below_drewN ?_ _) | (with_reducible refine Below.drew ?_) | (with_reducible refine below_alloc ?_) | (with_reducible refine below_set ?_ ?_) | (refine below_step (by with_reducible assumption) ?_) | (simp; done) | (simp; omega) | omega))⟩

set_option maxHeartbeats 400000 in
theorem CodeNameS6 (w : World) : Calls Try.prog 56 #[.int .i64 6] w (Gives (fun v => v = (Value.string ⟨#[110, 111, 116, 102, 111, 117, 110, 100]⟩)) w) := by
  go_enter Try.func56, Try.ntmps56
  go_wp2_with (first | (go_at_call 121; refine (l00In_any _ _ _ _).mono ?_; rintro e w' ⟨_, rfl, rfl, rfl⟩))
  simp [bodyPost, results, Try.results56, go_sem]
  refine ⟨_, rfl, rfl, by ((try simp only [Hid] at *); repeat' (first | (with_reducible exact Below.refl _ _) | (with_reducible assumption) | (with_reducible refine below_drewN ?_ _) | (with_reducible refine Below.drew ?_) | (with_reducible refine below_alloc ?_) | (with_reducible refine below_set ?_ ?_) | (refine below_step (by with_reducible assumption) ?_) | (simp; done) | (simp; omega) | omega))⟩

set_option maxHeartbeats 400000 in
theorem CodeNameS7 (w : World) : Calls Try.prog 56 #[.int .i64 7] w (Gives (fun v => v = (Value.string ⟨#[98, 117, 100, 103, 101, 116]⟩)) w) := by
  go_enter Try.func56, Try.ntmps56
  go_wp2_with (first | (go_at_call 121; refine (l00In_any _ _ _ _).mono ?_; rintro e w' ⟨_, rfl, rfl, rfl⟩))
  simp [bodyPost, results, Try.results56, go_sem]
  refine ⟨_, rfl, rfl, by ((try simp only [Hid] at *); repeat' (first | (with_reducible exact Below.refl _ _) | (with_reducible assumption) | (with_reducible refine below_drewN ?_ _) | (with_reducible refine Below.drew ?_) | (with_reducible refine below_alloc ?_) | (with_reducible refine below_set ?_ ?_) | (refine below_step (by with_reducible assumption) ?_) | (simp; done) | (simp; omega) | omega))⟩

set_option maxHeartbeats 400000 in
theorem CodeNameS8 (w : World) : Calls Try.prog 56 #[.int .i64 8] w (Gives (fun v => v = (Value.string ⟨#[112, 114, 111, 111, 102]⟩)) w) := by
  go_enter Try.func56, Try.ntmps56
  go_wp2_with (first | (go_at_call 121; refine (l00In_any _ _ _ _).mono ?_; rintro e w' ⟨_, rfl, rfl, rfl⟩))
  simp [bodyPost, results, Try.results56, go_sem]
  refine ⟨_, rfl, rfl, by ((try simp only [Hid] at *); repeat' (first | (with_reducible exact Below.refl _ _) | (with_reducible assumption) | (with_reducible refine below_drewN ?_ _) | (with_reducible refine Below.drew ?_) | (with_reducible refine below_alloc ?_) | (with_reducible refine below_set ?_ ?_) | (refine below_step (by with_reducible assumption) ?_) | (simp; done) | (simp; omega) | omega))⟩

set_option maxHeartbeats 400000 in
theorem CodeNameSo (n : Int) (h : n < 0 ∨ 8 < n) (w : World) : Calls Try.prog 56 #[.int .i64 n] w (Gives (fun v => v = .string ⟨#[]⟩) w) := by
  have hn : (decide (0 ≤ n) && decide (n ≤ 8)) = false := by rcases h with h | h <;> simp <;> omega
  go_enter Try.func56, Try.ntmps56
  go_wp2_with (first | (go_at_call 121; refine (l00In_any _ _ _ _).mono ?_; rintro e w' ⟨_, rfl, rfl, rfl⟩; rw [hn]))
  all_goals
    simp [bodyPost, results, Try.results56, go_sem]
    first
      | (refine ⟨_, rfl, rfl, by ((try simp only [Hid] at *); repeat' (first | (with_reducible exact Below.refl _ _) | (with_reducible assumption) | (with_reducible refine below_drewN ?_ _) | (with_reducible refine Below.drew ?_) | (with_reducible refine below_alloc ?_) | (with_reducible refine below_set ?_ ?_) | (refine below_step (by with_reducible assumption) ?_) | (simp; done) | (simp; omega) | omega))⟩; done)
      | (exfalso; simp_all; omega)

theorem CodeNameS (n : Int) (w : World) : Calls Try.prog 56 #[.int .i64 n] w (Gives (fun v => v = nm n) w) := by
  by_cases h : n < 0 ∨ 8 < n
  · rw [show nm n = .string ⟨#[]⟩ by unfold nm; repeat (rw [if_neg (by omega)])]; exact CodeNameSo n h w
  · have : n = 0 ∨ n = 1 ∨ n = 2 ∨ n = 3 ∨ n = 4 ∨ n = 5 ∨ n = 6 ∨ n = 7 ∨ n = 8 := by omega
    rcases this with rfl | rfl | rfl | rfl | rfl | rfl | rfl | rfl | rfl
    · exact CodeNameS0 w
    · exact CodeNameS1 w
    · exact CodeNameS2 w
    · exact CodeNameS3 w
    · exact CodeNameS4 w
    · exact CodeNameS5 w
    · exact CodeNameS6 w
    · exact CodeNameS7 w
    · exact CodeNameS8 w

set_option maxHeartbeats 400000 in
theorem CodeNameI0 (w : World) : Calls Try.prog 57 #[.int .i64 0] w (Gives (fun v => v = (Value.string ⟨#[111, 107]⟩)) w) := by
  go_enter Try.func57, Try.ntmps57
  go_wp2_with (first | (go_at_call 121; refine (l00In_any _ _ _ _).mono ?_; rintro e w' ⟨_, rfl, rfl, rfl⟩))
  simp [bodyPost, results, Try.results57, go_sem]
  refine ⟨_, rfl, rfl, by ((try simp only [Hid] at *); repeat' (first | (with_reducible exact Below.refl _ _) | (with_reducible assumption) | (with_reducible refine below_drewN ?_ _) | (with_reducible refine Below.drew ?_) | (with_reducible refine below_alloc ?_) | (with_reducible refine below_set ?_ ?_) | (refine below_step (by with_reducible assumption) ?_) | (simp; done) | (simp; omega) | omega))⟩

set_option maxHeartbeats 400000 in
theorem CodeNameI1 (w : World) : Calls Try.prog 57 #[.int .i64 1] w (Gives (fun v => v = (Value.string ⟨#[105, 110, 118, 97, 108, 105, 100]⟩)) w) := by
  go_enter Try.func57, Try.ntmps57
  go_wp2_with (first | (go_at_call 121; refine (l00In_any _ _ _ _).mono ?_; rintro e w' ⟨_, rfl, rfl, rfl⟩))
  simp [bodyPost, results, Try.results57, go_sem]
  refine ⟨_, rfl, rfl, by ((try simp only [Hid] at *); repeat' (first | (with_reducible exact Below.refl _ _) | (with_reducible assumption) | (with_reducible refine below_drewN ?_ _) | (with_reducible refine Below.drew ?_) | (with_reducible refine below_alloc ?_) | (with_reducible refine below_set ?_ ?_) | (refine below_step (by with_reducible assumption) ?_) | (simp; done) | (simp; omega) | omega))⟩

set_option maxHeartbeats 400000 in
theorem CodeNameI2 (w : World) : Calls Try.prog 57 #[.int .i64 2] w (Gives (fun v => v = (Value.string ⟨#[114, 97, 110, 103, 101]⟩)) w) := by
  go_enter Try.func57, Try.ntmps57
  go_wp2_with (first | (go_at_call 121; refine (l00In_any _ _ _ _).mono ?_; rintro e w' ⟨_, rfl, rfl, rfl⟩))
  simp [bodyPost, results, Try.results57, go_sem]
  refine ⟨_, rfl, rfl, by ((try simp only [Hid] at *); repeat' (first | (with_reducible exact Below.refl _ _) | (with_reducible assumption) | (with_reducible refine below_drewN ?_ _) | (with_reducible refine Below.drew ?_) | (with_reducible refine below_alloc ?_) | (with_reducible refine below_set ?_ ?_) | (refine below_step (by with_reducible assumption) ?_) | (simp; done) | (simp; omega) | omega))⟩

set_option maxHeartbeats 400000 in
theorem CodeNameI3 (w : World) : Calls Try.prog 57 #[.int .i64 3] w (Gives (fun v => v = (Value.string ⟨#[108, 105, 109, 105, 116]⟩)) w) := by
  go_enter Try.func57, Try.ntmps57
  go_wp2_with (first | (go_at_call 121; refine (l00In_any _ _ _ _).mono ?_; rintro e w' ⟨_, rfl, rfl, rfl⟩))
  simp [bodyPost, results, Try.results57, go_sem]
  refine ⟨_, rfl, rfl, by ((try simp only [Hid] at *); repeat' (first | (with_reducible exact Below.refl _ _) | (with_reducible assumption) | (with_reducible refine below_drewN ?_ _) | (with_reducible refine Below.drew ?_) | (with_reducible refine below_alloc ?_) | (with_reducible refine below_set ?_ ?_) | (refine below_step (by with_reducible assumption) ?_) | (simp; done) | (simp; omega) | omega))⟩

set_option maxHeartbeats 400000 in
theorem CodeNameI4 (w : World) : Calls Try.prog 57 #[.int .i64 4] w (Gives (fun v => v = (Value.string ⟨#[115, 116, 97, 116, 101]⟩)) w) := by
  go_enter Try.func57, Try.ntmps57
  go_wp2_with (first | (go_at_call 121; refine (l00In_any _ _ _ _).mono ?_; rintro e w' ⟨_, rfl, rfl, rfl⟩))
  simp [bodyPost, results, Try.results57, go_sem]
  refine ⟨_, rfl, rfl, by ((try simp only [Hid] at *); repeat' (first | (with_reducible exact Below.refl _ _) | (with_reducible assumption) | (with_reducible refine below_drewN ?_ _) | (with_reducible refine Below.drew ?_) | (with_reducible refine below_alloc ?_) | (with_reducible refine below_set ?_ ?_) | (refine below_step (by with_reducible assumption) ?_) | (simp; done) | (simp; omega) | omega))⟩

set_option maxHeartbeats 400000 in
theorem CodeNameI5 (w : World) : Calls Try.prog 57 #[.int .i64 5] w (Gives (fun v => v = (Value.string ⟨#[115, 121, 110, 116, 97, 120]⟩)) w) := by
  go_enter Try.func57, Try.ntmps57
  go_wp2_with (first | (go_at_call 121; refine (l00In_any _ _ _ _).mono ?_; rintro e w' ⟨_, rfl, rfl, rfl⟩))
  simp [bodyPost, results, Try.results57, go_sem]
  refine ⟨_, rfl, rfl, by ((try simp only [Hid] at *); repeat' (first | (with_reducible exact Below.refl _ _) | (with_reducible assumption) | (with_reducible refine below_drewN ?_ _) | (with_reducible refine Below.drew ?_) | (with_reducible refine below_alloc ?_) | (with_reducible refine below_set ?_ ?_) | (refine below_step (by with_reducible assumption) ?_) | (simp; done) | (simp; omega) | omega))⟩

set_option maxHeartbeats 400000 in
theorem CodeNameI6 (w : World) : Calls Try.prog 57 #[.int .i64 6] w (Gives (fun v => v = (Value.string ⟨#[110, 111, 116, 102, 111, 117, 110, 100]⟩)) w) := by
  go_enter Try.func57, Try.ntmps57
  go_wp2_with (first | (go_at_call 121; refine (l00In_any _ _ _ _).mono ?_; rintro e w' ⟨_, rfl, rfl, rfl⟩))
  simp [bodyPost, results, Try.results57, go_sem]
  refine ⟨_, rfl, rfl, by ((try simp only [Hid] at *); repeat' (first | (with_reducible exact Below.refl _ _) | (with_reducible assumption) | (with_reducible refine below_drewN ?_ _) | (with_reducible refine Below.drew ?_) | (with_reducible refine below_alloc ?_) | (with_reducible refine below_set ?_ ?_) | (refine below_step (by with_reducible assumption) ?_) | (simp; done) | (simp; omega) | omega))⟩

set_option maxHeartbeats 400000 in
theorem CodeNameI7 (w : World) : Calls Try.prog 57 #[.int .i64 7] w (Gives (fun v => v = (Value.string ⟨#[98, 117, 100, 103, 101, 116]⟩)) w) := by
  go_enter Try.func57, Try.ntmps57
  go_wp2_with (first | (go_at_call 121; refine (l00In_any _ _ _ _).mono ?_; rintro e w' ⟨_, rfl, rfl, rfl⟩))
  simp [bodyPost, results, Try.results57, go_sem]
  refine ⟨_, rfl, rfl, by ((try simp only [Hid] at *); repeat' (first | (with_reducible exact Below.refl _ _) | (with_reducible assumption) | (with_reducible refine below_drewN ?_ _) | (with_reducible refine Below.drew ?_) | (with_reducible refine below_alloc ?_) | (with_reducible refine below_set ?_ ?_) | (refine below_step (by with_reducible assumption) ?_) | (simp; done) | (simp; omega) | omega))⟩

set_option maxHeartbeats 400000 in
theorem CodeNameI8 (w : World) : Calls Try.prog 57 #[.int .i64 8] w (Gives (fun v => v = (Value.string ⟨#[112, 114, 111, 111, 102]⟩)) w) := by
  go_enter Try.func57, Try.ntmps57
  go_wp2_with (first | (go_at_call 121; refine (l00In_any _ _ _ _).mono ?_; rintro e w' ⟨_, rfl, rfl, rfl⟩))
  simp [bodyPost, results, Try.results57, go_sem]
  refine ⟨_, rfl, rfl, by ((try simp only [Hid] at *); repeat' (first | (with_reducible exact Below.refl _ _) | (with_reducible assumption) | (with_reducible refine below_drewN ?_ _) | (with_reducible refine Below.drew ?_) | (with_reducible refine below_alloc ?_) | (with_reducible refine below_set ?_ ?_) | (refine below_step (by with_reducible assumption) ?_) | (simp; done) | (simp; omega) | omega))⟩

set_option maxHeartbeats 400000 in
theorem CodeNameIo (n : Int) (h : n < 0 ∨ 8 < n) (w : World) : Calls Try.prog 57 #[.int .i64 n] w (Gives (fun v => v = .string ⟨#[]⟩) w) := by
  have hn : (decide (0 ≤ n) && decide (n ≤ 8)) = false := by rcases h with h | h <;> simp <;> omega
  go_enter Try.func57, Try.ntmps57
  go_wp2_with (first | (go_at_call 121; refine (l00In_any _ _ _ _).mono ?_; rintro e w' ⟨_, rfl, rfl, rfl⟩; rw [hn]))
  all_goals
    simp [bodyPost, results, Try.results57, go_sem]
    first
      | (refine ⟨_, rfl, rfl, by ((try simp only [Hid] at *); repeat' (first | (with_reducible exact Below.refl _ _) | (with_reducible assumption) | (with_reducible refine below_drewN ?_ _) | (with_reducible refine Below.drew ?_) | (with_reducible refine below_alloc ?_) | (with_reducible refine below_set ?_ ?_) | (refine below_step (by with_reducible assumption) ?_) | (simp; done) | (simp; omega) | omega))⟩; done)
      | (exfalso; simp_all; omega)

theorem CodeNameI (n : Int) (w : World) : Calls Try.prog 57 #[.int .i64 n] w (Gives (fun v => v = nm n) w) := by
  by_cases h : n < 0 ∨ 8 < n
  · rw [show nm n = .string ⟨#[]⟩ by unfold nm; repeat (rw [if_neg (by omega)])]; exact CodeNameIo n h w
  · have : n = 0 ∨ n = 1 ∨ n = 2 ∨ n = 3 ∨ n = 4 ∨ n = 5 ∨ n = 6 ∨ n = 7 ∨ n = 8 := by omega
    rcases this with rfl | rfl | rfl | rfl | rfl | rfl | rfl | rfl | rfl
    · exact CodeNameI0 w
    · exact CodeNameI1 w
    · exact CodeNameI2 w
    · exact CodeNameI3 w
    · exact CodeNameI4 w
    · exact CodeNameI5 w
    · exact CodeNameI6 w
    · exact CodeNameI7 w
    · exact CodeNameI8 w
theorem nm_string (n : Int) : ∃ b, nm n = .string b := by
  unfold nm; repeat' split
  all_goals exact ⟨_, rfl⟩

set_option maxHeartbeats 1600000 in
theorem walk (x0 : Int) (w0 : (Lit.int .i64 x0).wf = true) (w : World) :
    Calls Try.prog 6 #[.int .i64 x0] w (Gives (isB true) w) := by
  obtain ⟨b, hs⟩ := nm_string x0
  go_enter Try.func6, Try.ntmps6
  go_wp2_with (first | (go_at_call 56; refine (CodeNameS _ _).mono ?_; rintro e w' ⟨_, rfl, rfl, hb⟩; have HBCodeNameS := Lib.hid hb; clear hb; try rw [hs]) | (go_at_call 57; refine (CodeNameI _ _).mono ?_; rintro e w' ⟨_, rfl, rfl, hb⟩; have HBCodeNameI := Lib.hid hb; clear hb; try rw [hs]))
  first
    | simp [bodyPost, results, Try.results6, go_sem]
  exact ⟨_, rfl, rfl, by ((try simp only [Hid] at *); repeat' (first | (with_reducible exact Below.refl _ _) | (with_reducible assumption) | (with_reducible refine below_drewN ?_ _) | (with_reducible refine Below.drew ?_) | (with_reducible refine below_alloc ?_) | (with_reducible refine below_set ?_ ?_) | (refine below_step (by with_reducible assumption) ?_) | (simp; done) | (simp; omega) | omega))⟩

set_option maxRecDepth 100000 in
theorem lifted (os : Os) (started : os.Started) (H : Type) (enc : TypeId × Value → H) :
    ReturnsInHanded {} Try.checked os 6 .any (Rows.fnExactCodeNameSpec.pre6 enc Try.prog Try.f6 Rows.fnExactCodeNameRow.domain false) (Rows.fnExactCodeNameSpec.post enc Try.prog Try.f6 false true false false) := by
  refine returnsInHanded_of_change (C := Try.checked) own started (by kernel_rfl) Try.func6
    (ChangeSpec.witness6 (enc := enc) (C := Try.checked) false ⟨#[], #[.int .i64 0], []⟩ 8 (by kernel_rfl) (by kernel_rfl) (by kernel_rfl) (by kernel_rfl)) ?_
  intro W base args ds gs before hval0 hW hcnd _
  have hval : ∀ (j : Nat) t v, Try.f6.params[j]? = some t → args[j]? = some v → Value.okWide Try.prog W .any base t v := hval0
  have hW' := hW
  obtain ⟨p, q, hA0, hV, rfl, hfz, hnd⟩ := hW
  have hA : DataW.TrodAll enc Try.prog W 0 (fun _ => true) true Try.f6.params.toList args.toList ds p := hA0
  rw [Try.params6] at hA hval
  obtain ⟨v0, vs0, d0, ds0, p0, q0, hargs, rfl, rfl, h0, r0⟩ := trodAll_cons hA
  obtain ⟨rfl, rfl, rfl⟩ := trodAll_nil r0
  obtain rfl : args = #[v0] := by cases args; simp_all
  obtain ⟨rfl, rfl⟩ := trodVars_none hV
  have k0 := h0
  have lt0 := lt_of_trod h0
  obtain ⟨x0, rfl, rfl, rfl, w0⟩ := open_int Try.underlying2 (hval 0 2 v0 rfl rfl) h0
  clear hA0 hval0
  refine (walk x0 w0 W).mono fun e W' hq => ?_
  obtain ⟨v, rfl, rfl, bel⟩ := hq
  exact ⟨_, rfl, _, _, _, [], _, [], hW', trodAll_mk1 (shut_bool Try.underlying4 _), (trodAll_cons_mk (Below.trod laidOut (by kernel_rfl) (of_decide_eq_true (by kernel_rfl)) k0 bel lt0) trodAll_mk0), rfl, bel.frame _, fun h => by cases h⟩

theorem over : Rows.fnExactCodeNameRow.holds Try.pinned (OpenSpec.ofChange Rows.fnExactCodeNameSpec) :=
  OpenClaim.holds_of_wide 6 Try.f6 rfl rfl rfl rfl rfl rfl rfl ⟨rfl, rfl, rfl, rfl, rfl⟩ rfl rfl rfl rfl rfl (by kernel_rfl) Try.func6 (by kernel_rfl)
    (of_decide_eq_true (by kernel_rfl)) (by unfold Func.isWrapper; rw [if_neg (of_decide_eq_false (by kernel_rfl))]; exact ⟨rfl, rfl⟩)
    (fun os started H enc _ => lifted os started H enc)

theorem proved : Rows.FnExactCodeNameSaid := over

end Go.Proofs.Ytndbopccjkiagaa.lawExactCodeName
