/- Contracts of the calculations with points: what each returns, on canonical values. -/
import Derived.Test.YteckjpdfecgljaaBase
namespace Go.Proofs.Yteckjpdfecgljaa
open Go.RowKit Go.Flo
set_option linter.unusedSimpArgs false
set_option linter.unusedVariables false

def addP (p q : V3) : V3 := (add p.1 q.1, add p.2.1 q.2.1, add p.2.2 q.2.2)
def subP (p q : V3) : V3 := (sub p.1 q.1, sub p.2.1 q.2.1, sub p.2.2 q.2.2)
def scaleP (p : V3) (x : V) : V3 := (mul p.1 x, mul p.2.1 x, mul p.2.2 x)
def overP (p : V3) (x : V) : V3 := (div p.1 x, div p.2.1 x, div p.2.2 x)
def dotP (p q : V3) : V := add (add (mul p.1 q.1) (mul p.2.1 q.2.1)) (mul p.2.2 q.2.2)
def crossP (p q : V3) : V3 := (sub (mul p.2.1 q.2.2) (mul p.2.2 q.2.1), sub (mul p.2.2 q.1) (mul p.1 q.2.2), sub (mul p.1 q.2.1) (mul p.2.1 q.1))

--## end
end Go.Proofs.Yteckjpdfecgljaa
