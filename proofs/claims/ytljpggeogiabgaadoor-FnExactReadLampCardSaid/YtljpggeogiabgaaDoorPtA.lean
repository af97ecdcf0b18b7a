/- Contracts of the calculations with points: what each returns, on canonical values. -/
import Derived.Test.YtljpggeogiabgaaDoorBase
namespace Go.Proofs.YtljpggeogiabgaaDoor
open Go.RowKit Go.Flo
set_option linter.unusedSimpArgs false
set_option linter.unusedVariables false

def addP (p q : V3) : V3 := (add p.1 q.1, add p.2.1 q.2.1, add p.2.2 q.2.2)
def subP (p q : V3) : V3 := (sub p.1 q.1, sub p.2.1 q.2.1, sub p.2.2 q.2.2)
def scaleP (p : V3) (x : V) : V3 := (mul p.1 x, mul p.2.1 x, mul p.2.2 x)
def overP (p : V3) (x : V) : V3 := (div p.1 x, div p.2.1 x, div p.2.2 x)
def dotP (p q : V3) : V := add (add (mul p.1 q.1) (mul p.2.1 q.2.1)) (mul p.2.2 q.2.2)
def crossP (p q : V3) : V3 := (sub (mul p.2.1 q.2.2) (mul p.2.2 q.2.1), sub (mul p.2.2 q.1) (mul p.1 q.2.2), sub (mul p.1 q.2.1) (mul p.2.1 q.1))

--## dot_any
set_option maxHeartbeats 400000 in
theorem dot_any (x0 x1 x2 y0 y1 y2 : Nat) (w : World) :
    Calls Tryd.prog 59 #[.agg #[.float .f32 x0, .float .f32 x1, .float .f32 x2], .agg #[.float .f32 y0, .float .f32 y1, .float .f32 y2]] w (Gives (isF (dotP (cp x0 x1 x2) (cp y0 y1 y2))) w) := by
  go_enter Tryd.func59, Tryd.ntmps59
  go_wp2_with (first | (refine wpList_arith rfl _ _ _ _ _ rfl (by decide) _ _ _ rfl rfl ?_; intro r n hr))
  simp [bodyPost, results, Tryd.results59, go_sem]
  exact ⟨_, rfl, ⟨_, rfl, by (simp only [Hid] at *; simp only [add, sub, mul, div, dotP, cp, *])⟩, by ((try simp only [Hid] at *); repeat' (first | (with_reducible exact Below.refl _ _) | (with_reducible refine below_drewN ?_ _) | (with_reducible refine Below.drew ?_) | (with_reducible refine below_alloc ?_) | (with_reducible refine below_set ?_ ?_) | (refine below_step (by with_reducible assumption) ?_) | (simp; done) | (simp; omega) | omega))⟩

--## DotOfS
set_option maxHeartbeats 400000 in
theorem DotOfS (x0 x1 x2 y0 y1 y2 : Nat) (w : World) :
    Calls Tryd.prog 55 #[.agg #[.float .f32 x0, .float .f32 x1, .float .f32 x2], .agg #[.float .f32 y0, .float .f32 y1, .float .f32 y2]] w (Gives (isF (dotP (cp x0 x1 x2) (cp y0 y1 y2))) w) := by
  go_enter Tryd.func55, Tryd.ntmps55
  go_wp2_with (first | (refine wpList_arith rfl _ _ _ _ _ rfl (by decide) _ _ _ rfl rfl ?_; intro r n hr))
  simp [bodyPost, results, Tryd.results55, go_sem]
  exact ⟨_, rfl, ⟨_, rfl, by (simp only [Hid] at *; simp only [add, sub, mul, div, dotP, cp, *])⟩, by ((try simp only [Hid] at *); repeat' (first | (with_reducible exact Below.refl _ _) | (with_reducible refine below_drewN ?_ _) | (with_reducible refine Below.drew ?_) | (with_reducible refine below_alloc ?_) | (with_reducible refine below_set ?_ ?_) | (refine below_step (by with_reducible assumption) ?_) | (simp; done) | (simp; omega) | omega))⟩

--## end
end Go.Proofs.YtljpggeogiabgaaDoor
