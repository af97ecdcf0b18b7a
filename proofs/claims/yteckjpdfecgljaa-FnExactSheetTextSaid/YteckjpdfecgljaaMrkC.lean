/- Contracts: which marks are drawn; distances. -/
import Derived.Test.YteckjpdfecgljaaMrkA
namespace Go.Proofs.Yteckjpdfecgljaa
--## d
open Go.RowKit
set_option linter.unusedSimpArgs false
set_option linter.unusedVariables false
set_option maxRecDepth 20000
--## d
def drawnF (d k : Int) : Bool := if d = 0 then true else if d = 1 then decide (k % 6 < 4) else if d = 2 then k % 2 == 0 else if d = 3 then decide (k % 8 < 5) || k % 8 == 6 else false
--## d
def farF (n : Int) : Int := if n < 0 then -n else n
--## d
def maxF (a b : Int) : Int := if a < b then b else a
--## d
def distF (a b c d : Int) : Int := maxF (farF (a - c)) (farF (b - d))
--## d
@[go_sem] theorem run_max4 {P : Program} {w : World} (ts : Array TypeId) (t : TypeId) (k : IntKind) (a b c d : Int) : Sem.run P (Builtin.max_ ts t #[.int k a, .int k b, .int k c, .int k d]) w = .ok (.int k (maxF (maxF (maxF a b) c) d)) w := rfl
theorem dist_max (a b c d : Int) : maxF (maxF (maxF (c - a) (-(c - a))) (d - b)) (-(d - b)) = distF a b c d := by
  unfold distF maxF farF
  repeat' split
  all_goals omega
--## d
theorem wrapIn (x : Int) (h1 : -9223372036854775808 ≤ x) (h2 : x ≤ 9223372036854775807) : IntKind.i64.wrap x = x := by
  rw [IntKind.wrap_i64]
  omega
--## d
end Go.Proofs.Yteckjpdfecgljaa
