/- Contracts of the calculations with points: what each returns, on canonical values. -/
import Derived.Test.YtnjckcampgankaaDoorBase
namespace Go.Proofs.YtnjckcampgankaaDoor
open Go.RowKit Go.Flo
set_option linter.unusedSimpArgs false
set_option linter.unusedVariables false

def addP (p q : V3) : V3 := (add p.1 q.1, add p.2.1 q.2.1, add p.2.2 q.2.2)
def subP (p q : V3) : V3 := (sub p.1 q.1, sub p.2.1 q.2.1, sub p.2.2 q.2.2)
def scaleP (p : V3) (x : V) : V3 := (mul p.1 x, mul p.2.1 x, mul p.2.2 x)
def overP (p : V3) (x : V) : V3 := (div p.1 x, div p.2.1 x, div p.2.2 x)
def dotP (p q : V3) : V := add (add (mul p.1 q.1) (mul p.2.1 q.2.1)) (mul p.2.2 q.2.2)
def crossP (p q : V3) : V3 := (sub (mul p.2.1 q.2.2) (mul p.2.2 q.2.1), sub (mul p.2.2 q.1) (mul p.1 q.2.2), sub (mul p.1 q.2.1) (mul p.2.1 q.1))

--## plus_any
set_option maxHeartbeats 400000 in
theorem plus_any (x0 x1 x2 y0 y1 y2 : Nat) (w : World) :
    Calls Tryd.prog 65 #[.agg #[.float .f32 x0, .float .f32 x1, .float .f32 x2], .agg #[.float .f32 y0, .float .f32 y1, .float .f32 y2]] w (Gives (isP (addP (cp x0 x1 x2) (cp y0 y1 y2))) w) := by
  go_enter Tryd.func65, Tryd.ntmps65
  go_wp2_with (first | (refine wpList_arith rfl _ _ _ _ _ rfl (by decide) _ _ _ rfl rfl ?_; intro r n hr))
  simp [bodyPost, results, Tryd.results65, go_sem]
  exact ⟨_, rfl, ⟨_, _, _, rfl, by (simp only [Hid] at *; simp only [add, sub, mul, div, addP, cp, *]), by (simp only [Hid] at *; simp only [add, sub, mul, div, addP, cp, *]), by (simp only [Hid] at *; simp only [add, sub, mul, div, addP, cp, *])⟩, by ((try simp only [Hid] at *); repeat' (first | (with_reducible exact Below.refl _ _) | (with_reducible refine below_drewN ?_ _) | (with_reducible refine Below.drew ?_) | (with_reducible refine below_alloc ?_) | (with_reducible refine below_set ?_ ?_) | (refine below_step (by with_reducible assumption) ?_) | (simp; done) | (simp; omega) | omega))⟩

--## less_any
set_option maxHeartbeats 400000 in
theorem less_any (x0 x1 x2 y0 y1 y2 : Nat) (w : World) :
    Calls Tryd.prog 90 #[.agg #[.float .f32 x0, .float .f32 x1, .float .f32 x2], .agg #[.float .f32 y0, .float .f32 y1, .float .f32 y2]] w (Gives (isP (subP (cp x0 x1 x2) (cp y0 y1 y2))) w) := by
  go_enter Tryd.func90, Tryd.ntmps90
  go_wp2_with (first | (refine wpList_arith rfl _ _ _ _ _ rfl (by decide) _ _ _ rfl rfl ?_; intro r n hr))
  simp [bodyPost, results, Tryd.results90, go_sem]
  exact ⟨_, rfl, ⟨_, _, _, rfl, by (simp only [Hid] at *; simp only [add, sub, mul, div, subP, cp, *]), by (simp only [Hid] at *; simp only [add, sub, mul, div, subP, cp, *]), by (simp only [Hid] at *; simp only [add, sub, mul, div, subP, cp, *])⟩, by ((try simp only [Hid] at *); repeat' (first | (with_reducible exact Below.refl _ _) | (with_reducible refine below_drewN ?_ _) | (with_reducible refine Below.drew ?_) | (with_reducible refine below_alloc ?_) | (with_reducible refine below_set ?_ ?_) | (refine below_step (by with_reducible assumption) ?_) | (simp; done) | (simp; omega) | omega))⟩

--## cross_any
set_option maxHeartbeats 400000 in
theorem cross_any (x0 x1 x2 y0 y1 y2 : Nat) (w : World) :
    Calls Tryd.prog 92 #[.agg #[.float .f32 x0, .float .f32 x1, .float .f32 x2], .agg #[.float .f32 y0, .float .f32 y1, .float .f32 y2]] w (Gives (isP (crossP (cp x0 x1 x2) (cp y0 y1 y2))) w) := by
  go_enter Tryd.func92, Tryd.ntmps92
  go_wp2_with (first | (refine wpList_arith rfl _ _ _ _ _ rfl (by decide) _ _ _ rfl rfl ?_; intro r n hr))
  simp [bodyPost, results, Tryd.results92, go_sem]
  exact ⟨_, rfl, ⟨_, _, _, rfl, by (simp only [Hid] at *; simp only [add, sub, mul, div, crossP, cp, *]), by (simp only [Hid] at *; simp only [add, sub, mul, div, crossP, cp, *]), by (simp only [Hid] at *; simp only [add, sub, mul, div, crossP, cp, *])⟩, by ((try simp only [Hid] at *); repeat' (first | (with_reducible exact Below.refl _ _) | (with_reducible refine below_drewN ?_ _) | (with_reducible refine Below.drew ?_) | (with_reducible refine below_alloc ?_) | (with_reducible refine below_set ?_ ?_) | (refine below_step (by with_reducible assumption) ?_) | (simp; done) | (simp; omega) | omega))⟩

--## SubPointsS
set_option maxHeartbeats 400000 in
theorem SubPointsS (x0 x1 x2 y0 y1 y2 : Nat) (w : World) :
    Calls Tryd.prog 75 #[.agg #[.float .f32 x0, .float .f32 x1, .float .f32 x2], .agg #[.float .f32 y0, .float .f32 y1, .float .f32 y2]] w (Gives (isP (subP (cp x0 x1 x2) (cp y0 y1 y2))) w) := by
  go_enter Tryd.func75, Tryd.ntmps75
  go_wp2_with (first | (refine wpList_arith rfl _ _ _ _ _ rfl (by decide) _ _ _ rfl rfl ?_; intro r n hr))
  simp [bodyPost, results, Tryd.results75, go_sem]
  exact ⟨_, rfl, ⟨_, _, _, rfl, by (simp only [Hid] at *; simp only [add, sub, mul, div, subP, cp, *]), by (simp only [Hid] at *; simp only [add, sub, mul, div, subP, cp, *]), by (simp only [Hid] at *; simp only [add, sub, mul, div, subP, cp, *])⟩, by ((try simp only [Hid] at *); repeat' (first | (with_reducible exact Below.refl _ _) | (with_reducible refine below_drewN ?_ _) | (with_reducible refine Below.drew ?_) | (with_reducible refine below_alloc ?_) | (with_reducible refine below_set ?_ ?_) | (refine below_step (by with_reducible assumption) ?_) | (simp; done) | (simp; omega) | omega))⟩

--## CrossOfS
set_option maxHeartbeats 400000 in
theorem CrossOfS (x0 x1 x2 y0 y1 y2 : Nat) (w : World) :
    Calls Tryd.prog 76 #[.agg #[.float .f32 x0, .float .f32 x1, .float .f32 x2], .agg #[.float .f32 y0, .float .f32 y1, .float .f32 y2]] w (Gives (isP (crossP (cp x0 x1 x2) (cp y0 y1 y2))) w) := by
  go_enter Tryd.func76, Tryd.ntmps76
  go_wp2_with (first | (refine wpList_arith rfl _ _ _ _ _ rfl (by decide) _ _ _ rfl rfl ?_; intro r n hr))
  simp [bodyPost, results, Tryd.results76, go_sem]
  exact ⟨_, rfl, ⟨_, _, _, rfl, by (simp only [Hid] at *; simp only [add, sub, mul, div, crossP, cp, *]), by (simp only [Hid] at *; simp only [add, sub, mul, div, crossP, cp, *]), by (simp only [Hid] at *; simp only [add, sub, mul, div, crossP, cp, *])⟩, by ((try simp only [Hid] at *); repeat' (first | (with_reducible exact Below.refl _ _) | (with_reducible refine below_drewN ?_ _) | (with_reducible refine Below.drew ?_) | (with_reducible refine below_alloc ?_) | (with_reducible refine below_set ?_ ?_) | (refine below_step (by with_reducible assumption) ?_) | (simp; done) | (simp; omega) | omega))⟩

--## times_any
set_option maxHeartbeats 400000 in
theorem times_any (x0 x1 x2 y : Nat) (w : World) :
    Calls Tryd.prog 66 #[.agg #[.float .f32 x0, .float .f32 x1, .float .f32 x2], .float .f32 y] w (Gives (isP (scaleP (cp x0 x1 x2) (kcv .f32 y))) w) := by
  go_enter Tryd.func66, Tryd.ntmps66
  go_wp2_with (first | (refine wpList_arith rfl _ _ _ _ _ rfl (by decide) _ _ _ rfl rfl ?_; intro r n hr))
  simp [bodyPost, results, Tryd.results66, go_sem]
  exact ⟨_, rfl, ⟨_, _, _, rfl, by (simp only [Hid] at *; simp only [add, sub, mul, div, scaleP, cp, *]), by (simp only [Hid] at *; simp only [add, sub, mul, div, scaleP, cp, *]), by (simp only [Hid] at *; simp only [add, sub, mul, div, scaleP, cp, *])⟩, by ((try simp only [Hid] at *); repeat' (first | (with_reducible exact Below.refl _ _) | (with_reducible refine below_drewN ?_ _) | (with_reducible refine Below.drew ?_) | (with_reducible refine below_alloc ?_) | (with_reducible refine below_set ?_ ?_) | (refine below_step (by with_reducible assumption) ?_) | (simp; done) | (simp; omega) | omega))⟩

--## over_any
set_option maxHeartbeats 400000 in
theorem over_any (x0 x1 x2 y : Nat) (w : World) :
    Calls Tryd.prog 101 #[.agg #[.float .f32 x0, .float .f32 x1, .float .f32 x2], .float .f32 y] w (Gives (isP (overP (cp x0 x1 x2) (kcv .f32 y))) w) := by
  go_enter Tryd.func101, Tryd.ntmps101
  go_wp2_with (first | (refine wpList_arith rfl _ _ _ _ _ rfl (by decide) _ _ _ rfl rfl ?_; intro r n hr))
  simp [bodyPost, results, Tryd.results101, go_sem]
  exact ⟨_, rfl, ⟨_, _, _, rfl, by (simp only [Hid] at *; simp only [add, sub, mul, div, overP, cp, *]), by (simp only [Hid] at *; simp only [add, sub, mul, div, overP, cp, *]), by (simp only [Hid] at *; simp only [add, sub, mul, div, overP, cp, *])⟩, by ((try simp only [Hid] at *); repeat' (first | (with_reducible exact Below.refl _ _) | (with_reducible refine below_drewN ?_ _) | (with_reducible refine Below.drew ?_) | (with_reducible refine below_alloc ?_) | (with_reducible refine below_set ?_ ?_) | (refine below_step (by with_reducible assumption) ?_) | (simp; done) | (simp; omega) | omega))⟩

--## dot_any
set_option maxHeartbeats 400000 in
theorem dot_any (x0 x1 x2 y0 y1 y2 : Nat) (w : World) :
    Calls Tryd.prog 63 #[.agg #[.float .f32 x0, .float .f32 x1, .float .f32 x2], .agg #[.float .f32 y0, .float .f32 y1, .float .f32 y2]] w (Gives (isF (dotP (cp x0 x1 x2) (cp y0 y1 y2))) w) := by
  go_enter Tryd.func63, Tryd.ntmps63
  go_wp2_with (first | (refine wpList_arith rfl _ _ _ _ _ rfl (by decide) _ _ _ rfl rfl ?_; intro r n hr))
  simp [bodyPost, results, Tryd.results63, go_sem]
  exact ⟨_, rfl, ⟨_, rfl, by (simp only [Hid] at *; simp only [add, sub, mul, div, dotP, cp, *])⟩, by ((try simp only [Hid] at *); repeat' (first | (with_reducible exact Below.refl _ _) | (with_reducible refine below_drewN ?_ _) | (with_reducible refine Below.drew ?_) | (with_reducible refine below_alloc ?_) | (with_reducible refine below_set ?_ ?_) | (refine below_step (by with_reducible assumption) ?_) | (simp; done) | (simp; omega) | omega))⟩

--## DotOfS
set_option maxHeartbeats 400000 in
theorem DotOfS (x0 x1 x2 y0 y1 y2 : Nat) (w : World) :
    Calls Tryd.prog 55 #[.agg #[.float .f32 x0, .float .f32 x1, .float .f32 x2], .agg #[.float .f32 y0, .float .f32 y1, .float .f32 y2]] w (Gives (isF (dotP (cp x0 x1 x2) (cp y0 y1 y2))) w) := by
  go_enter Tryd.func55, Tryd.ntmps55
  go_wp2_with (first | (refine wpList_arith rfl _ _ _ _ _ rfl (by decide) _ _ _ rfl rfl ?_; intro r n hr))
  simp [bodyPost, results, Tryd.results55, go_sem]
  exact ⟨_, rfl, ⟨_, rfl, by (simp only [Hid] at *; simp only [add, sub, mul, div, dotP, cp, *])⟩, by ((try simp only [Hid] at *); repeat' (first | (with_reducible exact Below.refl _ _) | (with_reducible refine below_drewN ?_ _) | (with_reducible refine Below.drew ?_) | (with_reducible refine below_alloc ?_) | (with_reducible refine below_set ?_ ?_) | (refine below_step (by with_reducible assumption) ?_) | (simp; done) | (simp; omega) | omega))⟩

--## end
end Go.Proofs.YtnjckcampgankaaDoor
