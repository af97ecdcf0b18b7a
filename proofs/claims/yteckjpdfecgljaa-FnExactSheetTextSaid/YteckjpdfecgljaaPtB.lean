/- Contracts of the tests of numbers and points. -/
import Derived.Test.YteckjpdfecgljaaPtA
namespace Go.Proofs.Yteckjpdfecgljaa
open Go.RowKit Go.Flo
set_option linter.unusedSimpArgs false
set_option linter.unusedVariables false

--## end
end Go.Proofs.Yteckjpdfecgljaa
