/- Contracts: marks and strokes, by values. -/
import Derived.Test.YteckjpdfecgljaaBase
import Derived.WalkMore
import Derived.LoopN
import Derived.Deep.LoopGhost
namespace Go.Proofs.Yteckjpdfecgljaa
--## d
open Go.RowKit
set_option linter.unusedSimpArgs false
set_option linter.unusedVariables false
set_option maxRecDepth 20000
--## d
abbrev mk (x y : Int) : Value := .agg #[.int .i16 x, .int .i16 y]
--## d
abbrev st (a b c d e : Int) : Value := .agg #[.int .i16 a, .int .i16 b, .int .i16 c, .int .i16 d, .int .i8 e]
--## d
def I16 (x : Int) : Prop := -32768 ≤ x ∧ x ≤ 32767
--## d
def I8 (x : Int) : Prop := -128 ≤ x ∧ x ≤ 127
--## d
def inB (x : Int) : Bool := decide (-500 ≤ x) && decide (x ≤ 500)
--## d
def okM (x y : Int) : Bool := inB x && inB y
--## d
def okD (d : Int) : Bool := decide (0 ≤ d) && decide (d ≤ 3)
--## d
end Go.Proofs.Yteckjpdfecgljaa
