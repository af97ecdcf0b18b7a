/- Contracts: the laws' own functions over lists of strokes, marks, whole numbers, truths: copied, measured, compared. -/
import Derived.Test.YtpamgilkdkpcdaaMrkO
import Derived.Test.YtpamgilkdkpcdaaLstG
import Derived.Test.YtpamgilkdkpcdaaEqS
import Derived.Test.YtpamgilkdkpcdaaMrkB
import Derived.Test.YtpamgilkdkpcdaaMrkE
namespace Go.Proofs.Ytpamgilkdkpcdaa
--## d
open Go.ChangeShapes Go.WideShapes Go.ChangeAt Go.RowKit Go.Flo Go.Mem
set_option linter.unusedSimpArgs false
set_option linter.unusedVariables false
set_option maxRecDepth 20000
--## d
theorem rM_row' : True := trivial
--## d
end Go.Proofs.Ytpamgilkdkpcdaa
