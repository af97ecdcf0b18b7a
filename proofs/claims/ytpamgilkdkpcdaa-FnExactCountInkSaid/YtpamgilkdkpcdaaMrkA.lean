/- Contracts: marks and strokes, by values. -/
import Derived.Test.YtpamgilkdkpcdaaBase
import Derived.WalkMore
import Derived.LoopN
import Derived.Deep.LoopGhost
namespace Go.Proofs.Ytpamgilkdkpcdaa
--## d
open Go.RowKit
set_option linter.unusedSimpArgs false
set_option linter.unusedVariables false
set_option maxRecDepth 20000
--## d
abbrev mk (x y : Int) : Value := .agg #[.int .i16 x, .int .i16 y]
--## d
abbrev st (a b c d e : Int) : Value := .agg #[.int .i16 a, .int .i16 b, .int .i16 c, .int .i16 d, .int .i8 e]
--## d
def I16 (x : Int) : Prop := -32768 ≤ x ∧ x ≤ 32767
--## d
def I8 (x : Int) : Prop := -128 ≤ x ∧ x ≤ 127
--## d
def inB (x : Int) : Bool := decide (-500 ≤ x) && decide (x ≤ 500)
--## d
def okM (x y : Int) : Bool := inB x && inB y
--## d
def okD (d : Int) : Bool := decide (0 ≤ d) && decide (d ≤ 3)
--## d
set_option maxHeartbeats 400000 in
theorem toMarkA (x y : Int) (w : World) : Calls Try.prog 7 #[mk x y] w (Gives (fun v => v = mk x y) w) := by
  go_enter Try.func7, Try.ntmps7
  go_wp2_with fail
  refine wp_loop_rounds 3 ?_
  repeat any_goals (rw [rounds_succ]; go_wp2_with fail)
  simp [bodyPost, results, Try.results7, go_sem]
  exact ⟨_, rfl, rfl, (by ((try simp only [Hid] at *); repeat' (first | (with_reducible exact Below.refl _ _) | (with_reducible assumption) | (with_reducible refine below_drewN ?_ _) | (with_reducible refine Below.drew ?_) | (with_reducible refine below_alloc ?_) | (with_reducible refine below_set ?_ ?_) | (refine below_step (by with_reducible assumption) ?_) | (simp; done) | (simp; omega) | omega)))⟩
--## d
set_option maxHeartbeats 1000000 in
theorem isWithinA (x y a b c d : Int) (w : World) : Calls Try.prog 15 #[mk x y, mk a b, mk c d] w (Gives (isB (decide (a ≤ x) && decide (x ≤ c) && decide (b ≤ y) && decide (y ≤ d))) w) := by
  go_enter Try.func15, Try.ntmps15
  go_wp2_with fail
  all_goals
    simp [bodyPost, results, Try.results15, go_sem, *]
    refine ⟨_, rfl, ?_, (by ((try simp only [Hid] at *); repeat' (first | (with_reducible exact Below.refl _ _) | (with_reducible assumption) | (with_reducible refine below_drewN ?_ _) | (with_reducible refine Below.drew ?_) | (with_reducible refine below_alloc ?_) | (with_reducible refine below_set ?_ ?_) | (refine below_step (by with_reducible assumption) ?_) | (simp; done) | (simp; omega) | omega)))⟩
    simp_all [isB]
    try (intros; omega)
--## d
end Go.Proofs.Ytpamgilkdkpcdaa
