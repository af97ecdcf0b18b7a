/- Contracts: marks and strokes compared. -/
import Derived.Test.YteckjpdfecgljaaMrkO
namespace Go.Proofs.Yteckjpdfecgljaa
--## d
open Go.RowKit
set_option linter.unusedSimpArgs false
set_option linter.unusedVariables false
set_option maxRecDepth 20000
--## d
end Go.Proofs.Yteckjpdfecgljaa
