/-
  No cell of these rows narrows 'for every input' (looked for: loops, veiled, ifaces, maps, wideKeys, modest, calm, conditions, laid).
  DERIVED. THE GIVEN ROWS OF THIS SEAT. 11 by the template 'for every input the law returns true; each argument reads behind the call as it read before'; 0 by the template 'total and deterministic' (their statements: YtohmomcgdjpnoaaTotals.lean).
  GIVEN WITH THE SEED: the statements are not yours to turn. If you find one false, say at which input.
  Laid BY PROGRAM, IN A SANDBOX (cutbox-rows.mjs): the forced cells as the released guide's own fill.sh prints them over the translation 91fcef24d2d7ca9f… (all of the seat's roots in one cut). By AI agents, Wed Nov 11 2026. No macro, syntax, notation, axiom, sorry.
-/
import Derived.Test.YtohmomcgdjpnoaaChecked
import GoSem.Claim
import GoSem.ClaimJoined
import GoSem.ClaimMapViews
import Derived.JoinedTies
import Derived.KernelRfl
namespace Go.Proofs.Ytohmomcgdjpnoaa
/- THE CELL 'sum', in the pinned program and in every row, IS THE sha256 OF THE DUMP (.gsa) THAT YtohmomcgdjpnoaaProg.lean LOADS. Nothing in Lean hashes anything: it is a label: what it is worth is what the hold of that sum in a sandbox is worth. -/
noncomputable def Try.pinned : Pinned := { name := "ytohmomcgdjpnoaa", sum := "91fcef24d2d7ca9f6099d4e9492f96bb44f3292a38524fdeef82b62d1d976c61", checked := Try.checked }
namespace Rows
def none {H : Type} : Left H := { results := [], args := [] }

/-- 'laws.FnExactValidLamp': WHATEVER THE INPUT: true; the input reads as it did. -/
def fnExactValidLampSpec : ChangeSpec := { name := "fnExactValidLamp", fn := fun _ => fun
  | [d] => { results := [.lit (.bool true)], args := [d] }
  | _ => none }
def fnExactValidLampRow : OpenClaim := { program := "ytohmomcgdjpnoaa", sum := "91fcef24d2d7ca9f6099d4e9492f96bb44f3292a38524fdeef82b62d1d976c61", func := "loop.example/g01249/laws.FnExactValidLamp", spec := "fnExactValidLamp", inPlace := ["math.sqrt"], apart := false }
def FnExactValidLampSaid : Prop := fnExactValidLampRow.holds Try.pinned (OpenSpec.ofChange fnExactValidLampSpec)

/-- ITS FALSE NEIGHBOUR: 'it returns false'. Refute it at one input. -/
def fnExactValidLampWrong : ChangeSpec := { name := "fnExactValidLamp", fn := fun _ => fun
  | [d] => { results := [.lit (.bool false)], args := [d] }
  | _ => none }
def FnExactValidLampWrongFalsely : Prop := fnExactValidLampRow.holds Try.pinned (OpenSpec.ofChange fnExactValidLampWrong)

/-- 'laws.FnExactSameLamp': WHATEVER THE INPUT: true; the input reads as it did. -/
def fnExactSameLampSpec : ChangeSpec := { name := "fnExactSameLamp", fn := fun _ => fun
  | [d1, d2] => { results := [.lit (.bool true)], args := [d1, d2] }
  | _ => none }
def fnExactSameLampRow : OpenClaim := { program := "ytohmomcgdjpnoaa", sum := "91fcef24d2d7ca9f6099d4e9492f96bb44f3292a38524fdeef82b62d1d976c61", func := "loop.example/g01249/laws.FnExactSameLamp", spec := "fnExactSameLamp", inPlace := ["math.Float32bits"], apart := false }
def FnExactSameLampSaid : Prop := fnExactSameLampRow.holds Try.pinned (OpenSpec.ofChange fnExactSameLampSpec)

/-- ITS FALSE NEIGHBOUR: 'it returns false'. Refute it at one input. -/
def fnExactSameLampWrong : ChangeSpec := { name := "fnExactSameLamp", fn := fun _ => fun
  | [d1, d2] => { results := [.lit (.bool false)], args := [d1, d2] }
  | _ => none }
def FnExactSameLampWrongFalsely : Prop := fnExactSameLampRow.holds Try.pinned (OpenSpec.ofChange fnExactSameLampWrong)

/-- 'laws.FnExactTowardsLamp': WHATEVER THE INPUT: true; the input reads as it did. -/
def fnExactTowardsLampSpec : ChangeSpec := { name := "fnExactTowardsLamp", fn := fun _ => fun
  | [d1, d2] => { results := [.lit (.bool true)], args := [d1, d2] }
  | _ => none }
def fnExactTowardsLampRow : OpenClaim := { program := "ytohmomcgdjpnoaa", sum := "91fcef24d2d7ca9f6099d4e9492f96bb44f3292a38524fdeef82b62d1d976c61", func := "loop.example/g01249/laws.FnExactTowardsLamp", spec := "fnExactTowardsLamp", inPlace := ["math.sqrt"], unfollowed := true, recurses := true, apart := false }
def FnExactTowardsLampSaid : Prop := fnExactTowardsLampRow.holds Try.pinned (OpenSpec.ofChange fnExactTowardsLampSpec)

/-- ITS FALSE NEIGHBOUR: 'it returns false'. Refute it at one input. -/
def fnExactTowardsLampWrong : ChangeSpec := { name := "fnExactTowardsLamp", fn := fun _ => fun
  | [d1, d2] => { results := [.lit (.bool false)], args := [d1, d2] }
  | _ => none }
def FnExactTowardsLampWrongFalsely : Prop := fnExactTowardsLampRow.holds Try.pinned (OpenSpec.ofChange fnExactTowardsLampWrong)

/-- 'laws.FnExactBasisOf': WHATEVER THE INPUT: true; the input reads as it did. -/
def fnExactBasisOfSpec : ChangeSpec := { name := "fnExactBasisOf", fn := fun _ => fun
  | [d] => { results := [.lit (.bool true)], args := [d] }
  | _ => none }
def fnExactBasisOfRow : OpenClaim := { program := "ytohmomcgdjpnoaa", sum := "91fcef24d2d7ca9f6099d4e9492f96bb44f3292a38524fdeef82b62d1d976c61", func := "loop.example/g01249/laws.FnExactBasisOf", spec := "fnExactBasisOf", inPlace := ["math.sqrt", "math.Float64bits", "math.Float64frombits"], apart := false }
def FnExactBasisOfSaid : Prop := fnExactBasisOfRow.holds Try.pinned (OpenSpec.ofChange fnExactBasisOfSpec)

/-- ITS FALSE NEIGHBOUR: 'it returns false'. Refute it at one input. -/
def fnExactBasisOfWrong : ChangeSpec := { name := "fnExactBasisOf", fn := fun _ => fun
  | [d] => { results := [.lit (.bool false)], args := [d] }
  | _ => none }
def FnExactBasisOfWrongFalsely : Prop := fnExactBasisOfRow.holds Try.pinned (OpenSpec.ofChange fnExactBasisOfWrong)

/-- 'laws.FnExactPlaceOf': WHATEVER THE INPUT: true; the input reads as it did. -/
def fnExactPlaceOfSpec : ChangeSpec := { name := "fnExactPlaceOf", fn := fun _ => fun
  | [d1, d2] => { results := [.lit (.bool true)], args := [d1, d2] }
  | _ => none }
def fnExactPlaceOfRow : OpenClaim := { program := "ytohmomcgdjpnoaa", sum := "91fcef24d2d7ca9f6099d4e9492f96bb44f3292a38524fdeef82b62d1d976c61", func := "loop.example/g01249/laws.FnExactPlaceOf", spec := "fnExactPlaceOf", inPlace := ["math.sqrt", "math.Float64bits", "math.Float64frombits"], apart := false }
def FnExactPlaceOfSaid : Prop := fnExactPlaceOfRow.holds Try.pinned (OpenSpec.ofChange fnExactPlaceOfSpec)

/-- ITS FALSE NEIGHBOUR: 'it returns false'. Refute it at one input. -/
def fnExactPlaceOfWrong : ChangeSpec := { name := "fnExactPlaceOf", fn := fun _ => fun
  | [d1, d2] => { results := [.lit (.bool false)], args := [d1, d2] }
  | _ => none }
def FnExactPlaceOfWrongFalsely : Prop := fnExactPlaceOfRow.holds Try.pinned (OpenSpec.ofChange fnExactPlaceOfWrong)

/-- 'laws.FnExactFromPlane': WHATEVER THE INPUT: true; the input reads as it did. -/
def fnExactFromPlaneSpec : ChangeSpec := { name := "fnExactFromPlane", fn := fun _ => fun
  | [d1, d2] => { results := [.lit (.bool true)], args := [d1, d2] }
  | _ => none }
def fnExactFromPlaneRow : OpenClaim := { program := "ytohmomcgdjpnoaa", sum := "91fcef24d2d7ca9f6099d4e9492f96bb44f3292a38524fdeef82b62d1d976c61", func := "loop.example/g01249/laws.FnExactFromPlane", spec := "fnExactFromPlane", inPlace := ["math.sqrt", "math.Float64bits", "math.Float64frombits"], apart := false }
def FnExactFromPlaneSaid : Prop := fnExactFromPlaneRow.holds Try.pinned (OpenSpec.ofChange fnExactFromPlaneSpec)

/-- ITS FALSE NEIGHBOUR: 'it returns false'. Refute it at one input. -/
def fnExactFromPlaneWrong : ChangeSpec := { name := "fnExactFromPlane", fn := fun _ => fun
  | [d1, d2] => { results := [.lit (.bool false)], args := [d1, d2] }
  | _ => none }
def FnExactFromPlaneWrongFalsely : Prop := fnExactFromPlaneRow.holds Try.pinned (OpenSpec.ofChange fnExactFromPlaneWrong)

/-- 'laws.FnExactAreaOfLoop': WHATEVER THE INPUT: true; the input reads as it did. -/
def fnExactAreaOfLoopSpec : ChangeSpec := { name := "fnExactAreaOfLoop", fn := fun _ => fun
  | [d] => { results := [.lit (.bool true)], args := [d] }
  | _ => none }
def fnExactAreaOfLoopRow : OpenClaim := { program := "ytohmomcgdjpnoaa", sum := "91fcef24d2d7ca9f6099d4e9492f96bb44f3292a38524fdeef82b62d1d976c61", func := "loop.example/g01249/laws.FnExactAreaOfLoop", spec := "fnExactAreaOfLoop", apart := false }
def FnExactAreaOfLoopSaid : Prop := fnExactAreaOfLoopRow.holds Try.pinned (OpenSpec.ofChange fnExactAreaOfLoopSpec)

/-- ITS FALSE NEIGHBOUR: 'it returns false'. Refute it at one input. -/
def fnExactAreaOfLoopWrong : ChangeSpec := { name := "fnExactAreaOfLoop", fn := fun _ => fun
  | [d] => { results := [.lit (.bool false)], args := [d] }
  | _ => none }
def FnExactAreaOfLoopWrongFalsely : Prop := fnExactAreaOfLoopRow.holds Try.pinned (OpenSpec.ofChange fnExactAreaOfLoopWrong)

/-- 'laws.FnExactHullOf': WHATEVER THE INPUT: true; the input reads as it did. -/
def fnExactHullOfSpec : ChangeSpec := { name := "fnExactHullOf", fn := fun _ => fun
  | [d] => { results := [.lit (.bool true)], args := [d] }
  | _ => none }
def fnExactHullOfRow : OpenClaim := { program := "ytohmomcgdjpnoaa", sum := "91fcef24d2d7ca9f6099d4e9492f96bb44f3292a38524fdeef82b62d1d976c61", func := "loop.example/g01249/laws.FnExactHullOf", spec := "fnExactHullOf", unfollowed := true, recurses := true, apart := false }
def FnExactHullOfSaid : Prop := fnExactHullOfRow.holds Try.pinned (OpenSpec.ofChange fnExactHullOfSpec)

/-- ITS FALSE NEIGHBOUR: 'it returns false'. Refute it at one input. -/
def fnExactHullOfWrong : ChangeSpec := { name := "fnExactHullOf", fn := fun _ => fun
  | [d] => { results := [.lit (.bool false)], args := [d] }
  | _ => none }
def FnExactHullOfWrongFalsely : Prop := fnExactHullOfRow.holds Try.pinned (OpenSpec.ofChange fnExactHullOfWrong)

/-- 'laws.FnExactTwoViews': WHATEVER THE INPUT: true; the input reads as it did. -/
def fnExactTwoViewsSpec : ChangeSpec := { name := "fnExactTwoViews", fn := fun _ => fun
  | [d1, d2] => { results := [.lit (.bool true)], args := [d1, d2] }
  | _ => none }
def fnExactTwoViewsRow : OpenClaim := { program := "ytohmomcgdjpnoaa", sum := "91fcef24d2d7ca9f6099d4e9492f96bb44f3292a38524fdeef82b62d1d976c61", func := "loop.example/g01249/laws.FnExactTwoViews", spec := "fnExactTwoViews", inPlace := ["math.sqrt", "math.Float64bits", "math.Float64frombits"], apart := false }
def FnExactTwoViewsSaid : Prop := fnExactTwoViewsRow.holds Try.pinned (OpenSpec.ofChange fnExactTwoViewsSpec)

/-- ITS FALSE NEIGHBOUR: 'it returns false'. Refute it at one input. -/
def fnExactTwoViewsWrong : ChangeSpec := { name := "fnExactTwoViews", fn := fun _ => fun
  | [d1, d2] => { results := [.lit (.bool false)], args := [d1, d2] }
  | _ => none }
def FnExactTwoViewsWrongFalsely : Prop := fnExactTwoViewsRow.holds Try.pinned (OpenSpec.ofChange fnExactTwoViewsWrong)

/-- 'laws.FnExactClipAhead': WHATEVER THE INPUT: true; the input reads as it did. -/
def fnExactClipAheadSpec : ChangeSpec := { name := "fnExactClipAhead", fn := fun _ => fun
  | [d1, d2, d3] => { results := [.lit (.bool true)], args := [d1, d2, d3] }
  | _ => none }
def fnExactClipAheadRow : OpenClaim := { program := "ytohmomcgdjpnoaa", sum := "91fcef24d2d7ca9f6099d4e9492f96bb44f3292a38524fdeef82b62d1d976c61", func := "loop.example/g01249/laws.FnExactClipAhead", spec := "fnExactClipAhead", inPlace := ["math.sqrt", "math.Float64bits", "math.Float64frombits"], unfollowed := true, recurses := true, apart := false }
def FnExactClipAheadSaid : Prop := fnExactClipAheadRow.holds Try.pinned (OpenSpec.ofChange fnExactClipAheadSpec)

/-- ITS FALSE NEIGHBOUR: 'it returns false'. Refute it at one input. -/
def fnExactClipAheadWrong : ChangeSpec := { name := "fnExactClipAhead", fn := fun _ => fun
  | [d1, d2, d3] => { results := [.lit (.bool false)], args := [d1, d2, d3] }
  | _ => none }
def FnExactClipAheadWrongFalsely : Prop := fnExactClipAheadRow.holds Try.pinned (OpenSpec.ofChange fnExactClipAheadWrong)

/-- 'laws.FnExactProjectLine': WHATEVER THE INPUT: true; the input reads as it did. -/
def fnExactProjectLineSpec : ChangeSpec := { name := "fnExactProjectLine", fn := fun _ => fun
  | [d1, d2, d3] => { results := [.lit (.bool true)], args := [d1, d2, d3] }
  | _ => none }
def fnExactProjectLineRow : OpenClaim := { program := "ytohmomcgdjpnoaa", sum := "91fcef24d2d7ca9f6099d4e9492f96bb44f3292a38524fdeef82b62d1d976c61", func := "loop.example/g01249/laws.FnExactProjectLine", spec := "fnExactProjectLine", inPlace := ["math.sqrt", "math.Float64bits", "math.Float64frombits"], unfollowed := true, recurses := true, apart := false }
def FnExactProjectLineSaid : Prop := fnExactProjectLineRow.holds Try.pinned (OpenSpec.ofChange fnExactProjectLineSpec)

/-- ITS FALSE NEIGHBOUR: 'it returns false'. Refute it at one input. -/
def fnExactProjectLineWrong : ChangeSpec := { name := "fnExactProjectLine", fn := fun _ => fun
  | [d1, d2, d3] => { results := [.lit (.bool false)], args := [d1, d2, d3] }
  | _ => none }
def FnExactProjectLineWrongFalsely : Prop := fnExactProjectLineRow.holds Try.pinned (OpenSpec.ofChange fnExactProjectLineWrong)

/- THE SECOND FORM. 'bulk': how many values and letters a reading holds, each counted each time it is reached (what is shared counts as often as it is met; a slice's spare places count too). A statement '..UptoSaid' is the law's where the arguments, and the package variables that the reading takes, are together of bulk at most 1048576: NARROWER than '..Said'. Prove '..Said' where nothing that the law and all that it calls make is longer than what came in: it says more and counts as full. Else prove '..UptoSaid'. A law counts once. -/
mutual
def uptoBulk {H : Type} : DataW H → Nat
  | .lit (.string bytes) => bytes.length + 1
  | .lit _ => 1
  | .nil => 1
  | .ptr d => uptoBulk d + 1
  | .slice elems spare => uptoBulkAll elems + uptoBulkAll spare + 1
  | .agg parts => uptoBulkAll parts + 1
  | .iface _ d => uptoBulk d + 1
  | .map entries => uptoBulkEntries entries + 1
  | .held _ => 1
def uptoBulkAll {H : Type} : List (DataW H) → Nat
  | [] => 0
  | d :: r => uptoBulk d + uptoBulkAll r
def uptoBulkEntries {H : Type} : List (Lit × DataW H) → Nat
  | [] => 0
  | x :: r => uptoBulkEntry x + uptoBulkEntries r
def uptoBulkEntry {H : Type} : Lit × DataW H → Nat
  | (.string bytes, d) => bytes.length + uptoBulk d + 1
  | (_, d) => uptoBulk d + 1
 end
def uptoSmall : (H : Type) → List (DataW H) → Bool := fun _ ds => decide (uptoBulkAll ds ≤ 1048576)
def OpenSpec.upto (s : _root_.Go.ChangeSpec) : _root_.Go.OpenSpec := { _root_.Go.OpenSpec.ofChange s with cond := some uptoSmall }

/-- 'laws.FnExactValidLamp', WHERE WHAT IT READS IS OF BULK AT MOST 1048576: true; the input reads as it did. -/
def fnExactValidLampUptoRow : OpenClaim := { program := "ytohmomcgdjpnoaa", sum := "91fcef24d2d7ca9f6099d4e9492f96bb44f3292a38524fdeef82b62d1d976c61", func := "loop.example/g01249/laws.FnExactValidLamp", spec := "fnExactValidLamp", inPlace := ["math.sqrt"], apart := false, narrowed := true }
def FnExactValidLampUptoSaid : Prop := fnExactValidLampUptoRow.holds Try.pinned (OpenSpec.upto fnExactValidLampSpec)

/-- 'laws.FnExactSameLamp', WHERE WHAT IT READS IS OF BULK AT MOST 1048576: true; the input reads as it did. -/
def fnExactSameLampUptoRow : OpenClaim := { program := "ytohmomcgdjpnoaa", sum := "91fcef24d2d7ca9f6099d4e9492f96bb44f3292a38524fdeef82b62d1d976c61", func := "loop.example/g01249/laws.FnExactSameLamp", spec := "fnExactSameLamp", inPlace := ["math.Float32bits"], apart := false, narrowed := true }
def FnExactSameLampUptoSaid : Prop := fnExactSameLampUptoRow.holds Try.pinned (OpenSpec.upto fnExactSameLampSpec)

/-- 'laws.FnExactTowardsLamp', WHERE WHAT IT READS IS OF BULK AT MOST 1048576: true; the input reads as it did. -/
def fnExactTowardsLampUptoRow : OpenClaim := { program := "ytohmomcgdjpnoaa", sum := "91fcef24d2d7ca9f6099d4e9492f96bb44f3292a38524fdeef82b62d1d976c61", func := "loop.example/g01249/laws.FnExactTowardsLamp", spec := "fnExactTowardsLamp", inPlace := ["math.sqrt"], unfollowed := true, recurses := true, apart := false, narrowed := true }
def FnExactTowardsLampUptoSaid : Prop := fnExactTowardsLampUptoRow.holds Try.pinned (OpenSpec.upto fnExactTowardsLampSpec)

/-- 'laws.FnExactBasisOf', WHERE WHAT IT READS IS OF BULK AT MOST 1048576: true; the input reads as it did. -/
def fnExactBasisOfUptoRow : OpenClaim := { program := "ytohmomcgdjpnoaa", sum := "91fcef24d2d7ca9f6099d4e9492f96bb44f3292a38524fdeef82b62d1d976c61", func := "loop.example/g01249/laws.FnExactBasisOf", spec := "fnExactBasisOf", inPlace := ["math.sqrt", "math.Float64bits", "math.Float64frombits"], apart := false, narrowed := true }
def FnExactBasisOfUptoSaid : Prop := fnExactBasisOfUptoRow.holds Try.pinned (OpenSpec.upto fnExactBasisOfSpec)

/-- 'laws.FnExactPlaceOf', WHERE WHAT IT READS IS OF BULK AT MOST 1048576: true; the input reads as it did. -/
def fnExactPlaceOfUptoRow : OpenClaim := { program := "ytohmomcgdjpnoaa", sum := "91fcef24d2d7ca9f6099d4e9492f96bb44f3292a38524fdeef82b62d1d976c61", func := "loop.example/g01249/laws.FnExactPlaceOf", spec := "fnExactPlaceOf", inPlace := ["math.sqrt", "math.Float64bits", "math.Float64frombits"], apart := false, narrowed := true }
def FnExactPlaceOfUptoSaid : Prop := fnExactPlaceOfUptoRow.holds Try.pinned (OpenSpec.upto fnExactPlaceOfSpec)

/-- 'laws.FnExactFromPlane', WHERE WHAT IT READS IS OF BULK AT MOST 1048576: true; the input reads as it did. -/
def fnExactFromPlaneUptoRow : OpenClaim := { program := "ytohmomcgdjpnoaa", sum := "91fcef24d2d7ca9f6099d4e9492f96bb44f3292a38524fdeef82b62d1d976c61", func := "loop.example/g01249/laws.FnExactFromPlane", spec := "fnExactFromPlane", inPlace := ["math.sqrt", "math.Float64bits", "math.Float64frombits"], apart := false, narrowed := true }
def FnExactFromPlaneUptoSaid : Prop := fnExactFromPlaneUptoRow.holds Try.pinned (OpenSpec.upto fnExactFromPlaneSpec)

/-- 'laws.FnExactAreaOfLoop', WHERE WHAT IT READS IS OF BULK AT MOST 1048576: true; the input reads as it did. -/
def fnExactAreaOfLoopUptoRow : OpenClaim := { program := "ytohmomcgdjpnoaa", sum := "91fcef24d2d7ca9f6099d4e9492f96bb44f3292a38524fdeef82b62d1d976c61", func := "loop.example/g01249/laws.FnExactAreaOfLoop", spec := "fnExactAreaOfLoop", apart := false, narrowed := true }
def FnExactAreaOfLoopUptoSaid : Prop := fnExactAreaOfLoopUptoRow.holds Try.pinned (OpenSpec.upto fnExactAreaOfLoopSpec)

/-- 'laws.FnExactHullOf', WHERE WHAT IT READS IS OF BULK AT MOST 1048576: true; the input reads as it did. -/
def fnExactHullOfUptoRow : OpenClaim := { program := "ytohmomcgdjpnoaa", sum := "91fcef24d2d7ca9f6099d4e9492f96bb44f3292a38524fdeef82b62d1d976c61", func := "loop.example/g01249/laws.FnExactHullOf", spec := "fnExactHullOf", unfollowed := true, recurses := true, apart := false, narrowed := true }
def FnExactHullOfUptoSaid : Prop := fnExactHullOfUptoRow.holds Try.pinned (OpenSpec.upto fnExactHullOfSpec)

/-- 'laws.FnExactTwoViews', WHERE WHAT IT READS IS OF BULK AT MOST 1048576: true; the input reads as it did. -/
def fnExactTwoViewsUptoRow : OpenClaim := { program := "ytohmomcgdjpnoaa", sum := "91fcef24d2d7ca9f6099d4e9492f96bb44f3292a38524fdeef82b62d1d976c61", func := "loop.example/g01249/laws.FnExactTwoViews", spec := "fnExactTwoViews", inPlace := ["math.sqrt", "math.Float64bits", "math.Float64frombits"], apart := false, narrowed := true }
def FnExactTwoViewsUptoSaid : Prop := fnExactTwoViewsUptoRow.holds Try.pinned (OpenSpec.upto fnExactTwoViewsSpec)

/-- 'laws.FnExactClipAhead', WHERE WHAT IT READS IS OF BULK AT MOST 1048576: true; the input reads as it did. -/
def fnExactClipAheadUptoRow : OpenClaim := { program := "ytohmomcgdjpnoaa", sum := "91fcef24d2d7ca9f6099d4e9492f96bb44f3292a38524fdeef82b62d1d976c61", func := "loop.example/g01249/laws.FnExactClipAhead", spec := "fnExactClipAhead", inPlace := ["math.sqrt", "math.Float64bits", "math.Float64frombits"], unfollowed := true, recurses := true, apart := false, narrowed := true }
def FnExactClipAheadUptoSaid : Prop := fnExactClipAheadUptoRow.holds Try.pinned (OpenSpec.upto fnExactClipAheadSpec)

/-- 'laws.FnExactProjectLine', WHERE WHAT IT READS IS OF BULK AT MOST 1048576: true; the input reads as it did. -/
def fnExactProjectLineUptoRow : OpenClaim := { program := "ytohmomcgdjpnoaa", sum := "91fcef24d2d7ca9f6099d4e9492f96bb44f3292a38524fdeef82b62d1d976c61", func := "loop.example/g01249/laws.FnExactProjectLine", spec := "fnExactProjectLine", inPlace := ["math.sqrt", "math.Float64bits", "math.Float64frombits"], unfollowed := true, recurses := true, apart := false, narrowed := true }
def FnExactProjectLineUptoSaid : Prop := fnExactProjectLineUptoRow.holds Try.pinned (OpenSpec.upto fnExactProjectLineSpec)

end Rows
end Go.Proofs.Ytohmomcgdjpnoaa
