/- Contracts of the tests of numbers and points. -/
import Derived.Test.YtolnoifliahifaaPtA
namespace Go.Proofs.Ytolnoifliahifaa
open Go.RowKit Go.Flo
set_option linter.unusedSimpArgs false
set_option linter.unusedVariables false

--## end
end Go.Proofs.Ytolnoifliahifaa
