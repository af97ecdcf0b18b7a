/- Contracts: the bits of a point, sameness. -/
import Derived.Test.YteckjpdfecgljaaPtC
import Derived.Test.YteckjpdfecgljaaFlw
namespace Go.Proofs.Yteckjpdfecgljaa
open Go.RowKit Go.Flo Go.Mem Go.Inv
set_option linter.unusedSimpArgs false
set_option linter.unusedVariables false

--## samePt
def samePt (p q : V3) : Bool := bitsV p.1 == bitsV q.1 && bitsV p.2.1 == bitsV q.2.1 && bitsV p.2.2 == bitsV q.2.2
theorem intBeq (a b : Nat) : ((a : Int) == (b : Int)) = (a == b) := by
  rw [Bool.eq_iff_iff]; simp; omega
--## end
end Go.Proofs.Yteckjpdfecgljaa
