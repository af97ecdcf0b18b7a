/- Contracts of the calculations with points: what each returns, on canonical values. -/
import Derived.Test.YtljpggeogiabgaaBase
namespace Go.Proofs.Ytljpggeogiabgaa
open Go.RowKit Go.Flo
set_option linter.unusedSimpArgs false
set_option linter.unusedVariables false

def addP (p q : V3) : V3 := (add p.1 q.1, add p.2.1 q.2.1, add p.2.2 q.2.2)
def subP (p q : V3) : V3 := (sub p.1 q.1, sub p.2.1 q.2.1, sub p.2.2 q.2.2)
def scaleP (p : V3) (x : V) : V3 := (mul p.1 x, mul p.2.1 x, mul p.2.2 x)
def overP (p : V3) (x : V) : V3 := (div p.1 x, div p.2.1 x, div p.2.2 x)
def dotP (p q : V3) : V := add (add (mul p.1 q.1) (mul p.2.1 q.2.1)) (mul p.2.2 q.2.2)
def crossP (p q : V3) : V3 := (sub (mul p.2.1 q.2.2) (mul p.2.2 q.2.1), sub (mul p.2.2 q.1) (mul p.1 q.2.2), sub (mul p.1 q.2.1) (mul p.2.1 q.1))

--## less_any
set_option maxHeartbeats 400000 in
theorem less_any (x0 x1 x2 y0 y1 y2 : Nat) (w : World) :
    Calls Try.prog 58 #[.agg #[.float .f32 x0, .float .f32 x1, .float .f32 x2], .agg #[.float .f32 y0, .float .f32 y1, .float .f32 y2]] w (Gives (isP (subP (cp x0 x1 x2) (cp y0 y1 y2))) w) := by
  go_enter Try.func58, Try.ntmps58
  go_wp2_with (first | (refine wpList_arith rfl _ _ _ _ _ rfl (by decide) _ _ _ rfl rfl ?_; intro r n hr))
  simp [bodyPost, results, Try.results58, go_sem]
  exact ⟨_, rfl, ⟨_, _, _, rfl, by (simp only [Hid] at *; simp only [add, sub, mul, div, subP, cp, *]), by (simp only [Hid] at *; simp only [add, sub, mul, div, subP, cp, *]), by (simp only [Hid] at *; simp only [add, sub, mul, div, subP, cp, *])⟩, by ((try simp only [Hid] at *); repeat' (first | (with_reducible exact Below.refl _ _) | (with_reducible refine below_drewN ?_ _) | (with_reducible refine Below.drew ?_) | (with_reducible refine below_alloc ?_) | (with_reducible refine below_set ?_ ?_) | (refine below_step (by with_reducible assumption) ?_) | (simp; done) | (simp; omega) | omega))⟩

--## cross_any
set_option maxHeartbeats 400000 in
theorem cross_any (x0 x1 x2 y0 y1 y2 : Nat) (w : World) :
    Calls Try.prog 60 #[.agg #[.float .f32 x0, .float .f32 x1, .float .f32 x2], .agg #[.float .f32 y0, .float .f32 y1, .float .f32 y2]] w (Gives (isP (crossP (cp x0 x1 x2) (cp y0 y1 y2))) w) := by
  go_enter Try.func60, Try.ntmps60
  go_wp2_with (first | (refine wpList_arith rfl _ _ _ _ _ rfl (by decide) _ _ _ rfl rfl ?_; intro r n hr))
  simp [bodyPost, results, Try.results60, go_sem]
  exact ⟨_, rfl, ⟨_, _, _, rfl, by (simp only [Hid] at *; simp only [add, sub, mul, div, crossP, cp, *]), by (simp only [Hid] at *; simp only [add, sub, mul, div, crossP, cp, *]), by (simp only [Hid] at *; simp only [add, sub, mul, div, crossP, cp, *])⟩, by ((try simp only [Hid] at *); repeat' (first | (with_reducible exact Below.refl _ _) | (with_reducible refine below_drewN ?_ _) | (with_reducible refine Below.drew ?_) | (with_reducible refine below_alloc ?_) | (with_reducible refine below_set ?_ ?_) | (refine below_step (by with_reducible assumption) ?_) | (simp; done) | (simp; omega) | omega))⟩

--## SubPointsS
set_option maxHeartbeats 400000 in
theorem SubPointsS (x0 x1 x2 y0 y1 y2 : Nat) (w : World) :
    Calls Try.prog 48 #[.agg #[.float .f32 x0, .float .f32 x1, .float .f32 x2], .agg #[.float .f32 y0, .float .f32 y1, .float .f32 y2]] w (Gives (isP (subP (cp x0 x1 x2) (cp y0 y1 y2))) w) := by
  go_enter Try.func48, Try.ntmps48
  go_wp2_with (first | (refine wpList_arith rfl _ _ _ _ _ rfl (by decide) _ _ _ rfl rfl ?_; intro r n hr))
  simp [bodyPost, results, Try.results48, go_sem]
  exact ⟨_, rfl, ⟨_, _, _, rfl, by (simp only [Hid] at *; simp only [add, sub, mul, div, subP, cp, *]), by (simp only [Hid] at *; simp only [add, sub, mul, div, subP, cp, *]), by (simp only [Hid] at *; simp only [add, sub, mul, div, subP, cp, *])⟩, by ((try simp only [Hid] at *); repeat' (first | (with_reducible exact Below.refl _ _) | (with_reducible refine below_drewN ?_ _) | (with_reducible refine Below.drew ?_) | (with_reducible refine below_alloc ?_) | (with_reducible refine below_set ?_ ?_) | (refine below_step (by with_reducible assumption) ?_) | (simp; done) | (simp; omega) | omega))⟩

--## CrossOfS
set_option maxHeartbeats 400000 in
theorem CrossOfS (x0 x1 x2 y0 y1 y2 : Nat) (w : World) :
    Calls Try.prog 49 #[.agg #[.float .f32 x0, .float .f32 x1, .float .f32 x2], .agg #[.float .f32 y0, .float .f32 y1, .float .f32 y2]] w (Gives (isP (crossP (cp x0 x1 x2) (cp y0 y1 y2))) w) := by
  go_enter Try.func49, Try.ntmps49
  go_wp2_with (first | (refine wpList_arith rfl _ _ _ _ _ rfl (by decide) _ _ _ rfl rfl ?_; intro r n hr))
  simp [bodyPost, results, Try.results49, go_sem]
  exact ⟨_, rfl, ⟨_, _, _, rfl, by (simp only [Hid] at *; simp only [add, sub, mul, div, crossP, cp, *]), by (simp only [Hid] at *; simp only [add, sub, mul, div, crossP, cp, *]), by (simp only [Hid] at *; simp only [add, sub, mul, div, crossP, cp, *])⟩, by ((try simp only [Hid] at *); repeat' (first | (with_reducible exact Below.refl _ _) | (with_reducible refine below_drewN ?_ _) | (with_reducible refine Below.drew ?_) | (with_reducible refine below_alloc ?_) | (with_reducible refine below_set ?_ ?_) | (refine below_step (by with_reducible assumption) ?_) | (simp; done) | (simp; omega) | omega))⟩

--## over_any
set_option maxHeartbeats 400000 in
theorem over_any (x0 x1 x2 y : Nat) (w : World) :
    Calls Try.prog 68 #[.agg #[.float .f32 x0, .float .f32 x1, .float .f32 x2], .float .f32 y] w (Gives (isP (overP (cp x0 x1 x2) (kcv .f32 y))) w) := by
  go_enter Try.func68, Try.ntmps68
  go_wp2_with (first | (refine wpList_arith rfl _ _ _ _ _ rfl (by decide) _ _ _ rfl rfl ?_; intro r n hr))
  simp [bodyPost, results, Try.results68, go_sem]
  exact ⟨_, rfl, ⟨_, _, _, rfl, by (simp only [Hid] at *; simp only [add, sub, mul, div, overP, cp, *]), by (simp only [Hid] at *; simp only [add, sub, mul, div, overP, cp, *]), by (simp only [Hid] at *; simp only [add, sub, mul, div, overP, cp, *])⟩, by ((try simp only [Hid] at *); repeat' (first | (with_reducible exact Below.refl _ _) | (with_reducible refine below_drewN ?_ _) | (with_reducible refine Below.drew ?_) | (with_reducible refine below_alloc ?_) | (with_reducible refine below_set ?_ ?_) | (refine below_step (by with_reducible assumption) ?_) | (simp; done) | (simp; omega) | omega))⟩

--## dot_any
set_option maxHeartbeats 400000 in
theorem dot_any (x0 x1 x2 y0 y1 y2 : Nat) (w : World) :
    Calls Try.prog 71 #[.agg #[.float .f32 x0, .float .f32 x1, .float .f32 x2], .agg #[.float .f32 y0, .float .f32 y1, .float .f32 y2]] w (Gives (isF (dotP (cp x0 x1 x2) (cp y0 y1 y2))) w) := by
  go_enter Try.func71, Try.ntmps71
  go_wp2_with (first | (refine wpList_arith rfl _ _ _ _ _ rfl (by decide) _ _ _ rfl rfl ?_; intro r n hr))
  simp [bodyPost, results, Try.results71, go_sem]
  exact ⟨_, rfl, ⟨_, rfl, by (simp only [Hid] at *; simp only [add, sub, mul, div, dotP, cp, *])⟩, by ((try simp only [Hid] at *); repeat' (first | (with_reducible exact Below.refl _ _) | (with_reducible refine below_drewN ?_ _) | (with_reducible refine Below.drew ?_) | (with_reducible refine below_alloc ?_) | (with_reducible refine below_set ?_ ?_) | (refine below_step (by with_reducible assumption) ?_) | (simp; done) | (simp; omega) | omega))⟩

--## DotOfS
set_option maxHeartbeats 400000 in
theorem DotOfS (x0 x1 x2 y0 y1 y2 : Nat) (w : World) :
    Calls Try.prog 64 #[.agg #[.float .f32 x0, .float .f32 x1, .float .f32 x2], .agg #[.float .f32 y0, .float .f32 y1, .float .f32 y2]] w (Gives (isF (dotP (cp x0 x1 x2) (cp y0 y1 y2))) w) := by
  go_enter Try.func64, Try.ntmps64
  go_wp2_with (first | (refine wpList_arith rfl _ _ _ _ _ rfl (by decide) _ _ _ rfl rfl ?_; intro r n hr))
  simp [bodyPost, results, Try.results64, go_sem]
  exact ⟨_, rfl, ⟨_, rfl, by (simp only [Hid] at *; simp only [add, sub, mul, div, dotP, cp, *])⟩, by ((try simp only [Hid] at *); repeat' (first | (with_reducible exact Below.refl _ _) | (with_reducible refine below_drewN ?_ _) | (with_reducible refine Below.drew ?_) | (with_reducible refine below_alloc ?_) | (with_reducible refine below_set ?_ ?_) | (refine below_step (by with_reducible assumption) ?_) | (simp; done) | (simp; omega) | omega))⟩

--## end
end Go.Proofs.Ytljpggeogiabgaa
