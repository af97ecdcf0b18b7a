/-
  No cell of these rows narrows 'for every input' (looked for: loops, veiled, ifaces, maps, wideKeys, modest, calm, conditions, laid).
  DERIVED. THE GIVEN ROWS OF THIS SEAT. 12 by the template 'for every input the law returns true; each argument reads behind the call as it read before'; 0 by the template 'total and deterministic' (their statements: YtndbopccjkiagabTotals.lean).
  GIVEN WITH THE SEED: the statements are not yours to turn. If you find one false, say at which input.
  Laid BY PROGRAM, IN A SANDBOX (cutbox-rows.mjs): the forced cells as the released guide's own fill.sh prints them over the translation e58a5f2747ec8f85… (all of the seat's roots in one cut). By AI agents, Wed Nov 11 2026. No macro, syntax, notation, axiom, sorry.
-/
import Derived.Test.YtndbopccjkiagabChecked
import GoSem.Claim
import GoSem.ClaimJoined
import GoSem.ClaimMapViews
import Derived.JoinedTies
import Derived.KernelRfl
namespace Go.Proofs.Ytndbopccjkiagab
/- THE CELL 'sum', in the pinned program and in every row, IS THE sha256 OF THE DUMP (.gsa) THAT YtndbopccjkiagabProg.lean LOADS. Nothing in Lean hashes anything: it is a label: what it is worth is what the hold of that sum in a sandbox is worth. -/
noncomputable def Try.pinned : Pinned := { name := "ytndbopccjkiagab", sum := "e58a5f2747ec8f85bb44a468f9e2b067fa8dbb5176b35f33fd1574c3a4f01354", checked := Try.checked }
namespace Rows
def none {H : Type} : Left H := { results := [], args := [] }

/-- 'laws.FnExactScalePoint': WHATEVER THE INPUT: true; the input reads as it did. -/
def fnExactScalePointSpec : ChangeSpec := { name := "fnExactScalePoint", fn := fun _ => fun
  | [d1, d2] => { results := [.lit (.bool true)], args := [d1, d2] }
  | _ => none }
def fnExactScalePointRow : OpenClaim := { program := "ytndbopccjkiagab", sum := "e58a5f2747ec8f85bb44a468f9e2b067fa8dbb5176b35f33fd1574c3a4f01354", func := "loop.example/g01249/laws.FnExactScalePoint", spec := "fnExactScalePoint", apart := false }
def FnExactScalePointSaid : Prop := fnExactScalePointRow.holds Try.pinned (OpenSpec.ofChange fnExactScalePointSpec)

/-- ITS FALSE NEIGHBOUR: 'it returns false'. Refute it at one input. -/
def fnExactScalePointWrong : ChangeSpec := { name := "fnExactScalePoint", fn := fun _ => fun
  | [d1, d2] => { results := [.lit (.bool false)], args := [d1, d2] }
  | _ => none }
def FnExactScalePointWrongFalsely : Prop := fnExactScalePointRow.holds Try.pinned (OpenSpec.ofChange fnExactScalePointWrong)

/-- 'laws.FnExactDotOf': WHATEVER THE INPUT: true; the input reads as it did. -/
def fnExactDotOfSpec : ChangeSpec := { name := "fnExactDotOf", fn := fun _ => fun
  | [d1, d2] => { results := [.lit (.bool true)], args := [d1, d2] }
  | _ => none }
def fnExactDotOfRow : OpenClaim := { program := "ytndbopccjkiagab", sum := "e58a5f2747ec8f85bb44a468f9e2b067fa8dbb5176b35f33fd1574c3a4f01354", func := "loop.example/g01249/laws.FnExactDotOf", spec := "fnExactDotOf", apart := false }
def FnExactDotOfSaid : Prop := fnExactDotOfRow.holds Try.pinned (OpenSpec.ofChange fnExactDotOfSpec)

/-- ITS FALSE NEIGHBOUR: 'it returns false'. Refute it at one input. -/
def fnExactDotOfWrong : ChangeSpec := { name := "fnExactDotOf", fn := fun _ => fun
  | [d1, d2] => { results := [.lit (.bool false)], args := [d1, d2] }
  | _ => none }
def FnExactDotOfWrongFalsely : Prop := fnExactDotOfRow.holds Try.pinned (OpenSpec.ofChange fnExactDotOfWrong)

/-- 'laws.FnExactCrossOf': WHATEVER THE INPUT: true; the input reads as it did. -/
def fnExactCrossOfSpec : ChangeSpec := { name := "fnExactCrossOf", fn := fun _ => fun
  | [d1, d2] => { results := [.lit (.bool true)], args := [d1, d2] }
  | _ => none }
def fnExactCrossOfRow : OpenClaim := { program := "ytndbopccjkiagab", sum := "e58a5f2747ec8f85bb44a468f9e2b067fa8dbb5176b35f33fd1574c3a4f01354", func := "loop.example/g01249/laws.FnExactCrossOf", spec := "fnExactCrossOf", unfollowed := true, recurses := true, apart := false }
def FnExactCrossOfSaid : Prop := fnExactCrossOfRow.holds Try.pinned (OpenSpec.ofChange fnExactCrossOfSpec)

/-- ITS FALSE NEIGHBOUR: 'it returns false'. Refute it at one input. -/
def fnExactCrossOfWrong : ChangeSpec := { name := "fnExactCrossOf", fn := fun _ => fun
  | [d1, d2] => { results := [.lit (.bool false)], args := [d1, d2] }
  | _ => none }
def FnExactCrossOfWrongFalsely : Prop := fnExactCrossOfRow.holds Try.pinned (OpenSpec.ofChange fnExactCrossOfWrong)

/-- 'laws.FnExactLengthOf': WHATEVER THE INPUT: true; the input reads as it did. -/
def fnExactLengthOfSpec : ChangeSpec := { name := "fnExactLengthOf", fn := fun _ => fun
  | [d] => { results := [.lit (.bool true)], args := [d] }
  | _ => none }
def fnExactLengthOfRow : OpenClaim := { program := "ytndbopccjkiagab", sum := "e58a5f2747ec8f85bb44a468f9e2b067fa8dbb5176b35f33fd1574c3a4f01354", func := "loop.example/g01249/laws.FnExactLengthOf", spec := "fnExactLengthOf", inPlace := ["math.sqrt"], apart := false }
def FnExactLengthOfSaid : Prop := fnExactLengthOfRow.holds Try.pinned (OpenSpec.ofChange fnExactLengthOfSpec)

/-- ITS FALSE NEIGHBOUR: 'it returns false'. Refute it at one input. -/
def fnExactLengthOfWrong : ChangeSpec := { name := "fnExactLengthOf", fn := fun _ => fun
  | [d] => { results := [.lit (.bool false)], args := [d] }
  | _ => none }
def FnExactLengthOfWrongFalsely : Prop := fnExactLengthOfRow.holds Try.pinned (OpenSpec.ofChange fnExactLengthOfWrong)

/-- 'laws.FnExactUnitOf': WHATEVER THE INPUT: true; the input reads as it did. -/
def fnExactUnitOfSpec : ChangeSpec := { name := "fnExactUnitOf", fn := fun _ => fun
  | [d] => { results := [.lit (.bool true)], args := [d] }
  | _ => none }
def fnExactUnitOfRow : OpenClaim := { program := "ytndbopccjkiagab", sum := "e58a5f2747ec8f85bb44a468f9e2b067fa8dbb5176b35f33fd1574c3a4f01354", func := "loop.example/g01249/laws.FnExactUnitOf", spec := "fnExactUnitOf", inPlace := ["math.sqrt", "math.Float64bits", "math.Float64frombits"], apart := false }
def FnExactUnitOfSaid : Prop := fnExactUnitOfRow.holds Try.pinned (OpenSpec.ofChange fnExactUnitOfSpec)

/-- ITS FALSE NEIGHBOUR: 'it returns false'. Refute it at one input. -/
def fnExactUnitOfWrong : ChangeSpec := { name := "fnExactUnitOf", fn := fun _ => fun
  | [d] => { results := [.lit (.bool false)], args := [d] }
  | _ => none }
def FnExactUnitOfWrongFalsely : Prop := fnExactUnitOfRow.holds Try.pinned (OpenSpec.ofChange fnExactUnitOfWrong)

/-- 'laws.FnExactDistanceBetween': WHATEVER THE INPUT: true; the input reads as it did. -/
def fnExactDistanceBetweenSpec : ChangeSpec := { name := "fnExactDistanceBetween", fn := fun _ => fun
  | [d1, d2] => { results := [.lit (.bool true)], args := [d1, d2] }
  | _ => none }
def fnExactDistanceBetweenRow : OpenClaim := { program := "ytndbopccjkiagab", sum := "e58a5f2747ec8f85bb44a468f9e2b067fa8dbb5176b35f33fd1574c3a4f01354", func := "loop.example/g01249/laws.FnExactDistanceBetween", spec := "fnExactDistanceBetween", inPlace := ["math.sqrt"], apart := false }
def FnExactDistanceBetweenSaid : Prop := fnExactDistanceBetweenRow.holds Try.pinned (OpenSpec.ofChange fnExactDistanceBetweenSpec)

/-- ITS FALSE NEIGHBOUR: 'it returns false'. Refute it at one input. -/
def fnExactDistanceBetweenWrong : ChangeSpec := { name := "fnExactDistanceBetween", fn := fun _ => fun
  | [d1, d2] => { results := [.lit (.bool false)], args := [d1, d2] }
  | _ => none }
def FnExactDistanceBetweenWrongFalsely : Prop := fnExactDistanceBetweenRow.holds Try.pinned (OpenSpec.ofChange fnExactDistanceBetweenWrong)

/-- 'laws.FnExactBetweenPoints': WHATEVER THE INPUT: true; the input reads as it did. -/
def fnExactBetweenPointsSpec : ChangeSpec := { name := "fnExactBetweenPoints", fn := fun _ => fun
  | [d1, d2, d3] => { results := [.lit (.bool true)], args := [d1, d2, d3] }
  | _ => none }
def fnExactBetweenPointsRow : OpenClaim := { program := "ytndbopccjkiagab", sum := "e58a5f2747ec8f85bb44a468f9e2b067fa8dbb5176b35f33fd1574c3a4f01354", func := "loop.example/g01249/laws.FnExactBetweenPoints", spec := "fnExactBetweenPoints", apart := false }
def FnExactBetweenPointsSaid : Prop := fnExactBetweenPointsRow.holds Try.pinned (OpenSpec.ofChange fnExactBetweenPointsSpec)

/-- ITS FALSE NEIGHBOUR: 'it returns false'. Refute it at one input. -/
def fnExactBetweenPointsWrong : ChangeSpec := { name := "fnExactBetweenPoints", fn := fun _ => fun
  | [d1, d2, d3] => { results := [.lit (.bool false)], args := [d1, d2, d3] }
  | _ => none }
def FnExactBetweenPointsWrongFalsely : Prop := fnExactBetweenPointsRow.holds Try.pinned (OpenSpec.ofChange fnExactBetweenPointsWrong)

/-- 'laws.FnExactValidPlane': WHATEVER THE INPUT: true; the input reads as it did. -/
def fnExactValidPlaneSpec : ChangeSpec := { name := "fnExactValidPlane", fn := fun _ => fun
  | [d] => { results := [.lit (.bool true)], args := [d] }
  | _ => none }
def fnExactValidPlaneRow : OpenClaim := { program := "ytndbopccjkiagab", sum := "e58a5f2747ec8f85bb44a468f9e2b067fa8dbb5176b35f33fd1574c3a4f01354", func := "loop.example/g01249/laws.FnExactValidPlane", spec := "fnExactValidPlane", inPlace := ["math.sqrt"], apart := false }
def FnExactValidPlaneSaid : Prop := fnExactValidPlaneRow.holds Try.pinned (OpenSpec.ofChange fnExactValidPlaneSpec)

/-- ITS FALSE NEIGHBOUR: 'it returns false'. Refute it at one input. -/
def fnExactValidPlaneWrong : ChangeSpec := { name := "fnExactValidPlane", fn := fun _ => fun
  | [d] => { results := [.lit (.bool false)], args := [d] }
  | _ => none }
def FnExactValidPlaneWrongFalsely : Prop := fnExactValidPlaneRow.holds Try.pinned (OpenSpec.ofChange fnExactValidPlaneWrong)

/-- 'laws.FnExactSamePlane': WHATEVER THE INPUT: true; the input reads as it did. -/
def fnExactSamePlaneSpec : ChangeSpec := { name := "fnExactSamePlane", fn := fun _ => fun
  | [d1, d2] => { results := [.lit (.bool true)], args := [d1, d2] }
  | _ => none }
def fnExactSamePlaneRow : OpenClaim := { program := "ytndbopccjkiagab", sum := "e58a5f2747ec8f85bb44a468f9e2b067fa8dbb5176b35f33fd1574c3a4f01354", func := "loop.example/g01249/laws.FnExactSamePlane", spec := "fnExactSamePlane", inPlace := ["math.Float32bits"], apart := false }
def FnExactSamePlaneSaid : Prop := fnExactSamePlaneRow.holds Try.pinned (OpenSpec.ofChange fnExactSamePlaneSpec)

/-- ITS FALSE NEIGHBOUR: 'it returns false'. Refute it at one input. -/
def fnExactSamePlaneWrong : ChangeSpec := { name := "fnExactSamePlane", fn := fun _ => fun
  | [d1, d2] => { results := [.lit (.bool false)], args := [d1, d2] }
  | _ => none }
def FnExactSamePlaneWrongFalsely : Prop := fnExactSamePlaneRow.holds Try.pinned (OpenSpec.ofChange fnExactSamePlaneWrong)

/-- 'laws.FnExactPlaneThrough': WHATEVER THE INPUT: true; the input reads as it did. -/
def fnExactPlaneThroughSpec : ChangeSpec := { name := "fnExactPlaneThrough", fn := fun _ => fun
  | [d1, d2, d3] => { results := [.lit (.bool true)], args := [d1, d2, d3] }
  | _ => none }
def fnExactPlaneThroughRow : OpenClaim := { program := "ytndbopccjkiagab", sum := "e58a5f2747ec8f85bb44a468f9e2b067fa8dbb5176b35f33fd1574c3a4f01354", func := "loop.example/g01249/laws.FnExactPlaneThrough", spec := "fnExactPlaneThrough", inPlace := ["math.sqrt", "math.Float64bits", "math.Float64frombits"], apart := false }
def FnExactPlaneThroughSaid : Prop := fnExactPlaneThroughRow.holds Try.pinned (OpenSpec.ofChange fnExactPlaneThroughSpec)

/-- ITS FALSE NEIGHBOUR: 'it returns false'. Refute it at one input. -/
def fnExactPlaneThroughWrong : ChangeSpec := { name := "fnExactPlaneThrough", fn := fun _ => fun
  | [d1, d2, d3] => { results := [.lit (.bool false)], args := [d1, d2, d3] }
  | _ => none }
def FnExactPlaneThroughWrongFalsely : Prop := fnExactPlaneThroughRow.holds Try.pinned (OpenSpec.ofChange fnExactPlaneThroughWrong)

/-- 'laws.FnExactPlaneAt': WHATEVER THE INPUT: true; the input reads as it did. -/
def fnExactPlaneAtSpec : ChangeSpec := { name := "fnExactPlaneAt", fn := fun _ => fun
  | [d1, d2] => { results := [.lit (.bool true)], args := [d1, d2] }
  | _ => none }
def fnExactPlaneAtRow : OpenClaim := { program := "ytndbopccjkiagab", sum := "e58a5f2747ec8f85bb44a468f9e2b067fa8dbb5176b35f33fd1574c3a4f01354", func := "loop.example/g01249/laws.FnExactPlaneAt", spec := "fnExactPlaneAt", inPlace := ["math.sqrt", "math.Float64bits", "math.Float64frombits"], apart := false }
def FnExactPlaneAtSaid : Prop := fnExactPlaneAtRow.holds Try.pinned (OpenSpec.ofChange fnExactPlaneAtSpec)

/-- ITS FALSE NEIGHBOUR: 'it returns false'. Refute it at one input. -/
def fnExactPlaneAtWrong : ChangeSpec := { name := "fnExactPlaneAt", fn := fun _ => fun
  | [d1, d2] => { results := [.lit (.bool false)], args := [d1, d2] }
  | _ => none }
def FnExactPlaneAtWrongFalsely : Prop := fnExactPlaneAtRow.holds Try.pinned (OpenSpec.ofChange fnExactPlaneAtWrong)

/-- 'laws.FnExactSideOf': WHATEVER THE INPUT: true; the input reads as it did. -/
def fnExactSideOfSpec : ChangeSpec := { name := "fnExactSideOf", fn := fun _ => fun
  | [d1, d2] => { results := [.lit (.bool true)], args := [d1, d2] }
  | _ => none }
def fnExactSideOfRow : OpenClaim := { program := "ytndbopccjkiagab", sum := "e58a5f2747ec8f85bb44a468f9e2b067fa8dbb5176b35f33fd1574c3a4f01354", func := "loop.example/g01249/laws.FnExactSideOf", spec := "fnExactSideOf", inPlace := ["math.sqrt"], apart := false }
def FnExactSideOfSaid : Prop := fnExactSideOfRow.holds Try.pinned (OpenSpec.ofChange fnExactSideOfSpec)

/-- ITS FALSE NEIGHBOUR: 'it returns false'. Refute it at one input. -/
def fnExactSideOfWrong : ChangeSpec := { name := "fnExactSideOf", fn := fun _ => fun
  | [d1, d2] => { results := [.lit (.bool false)], args := [d1, d2] }
  | _ => none }
def FnExactSideOfWrongFalsely : Prop := fnExactSideOfRow.holds Try.pinned (OpenSpec.ofChange fnExactSideOfWrong)

/- THE SECOND FORM. 'bulk': how many values and letters a reading holds, each counted each time it is reached (what is shared counts as often as it is met; a slice's spare places count too). A statement '..UptoSaid' is the law's where the arguments, and the package variables that the reading takes, are together of bulk at most 1048576: NARROWER than '..Said'. Prove '..Said' where nothing that the law and all that it calls make is longer than what came in: it says more and counts as full. Else prove '..UptoSaid'. A law counts once. -/
mutual
def uptoBulk {H : Type} : DataW H → Nat
  | .lit (.string bytes) => bytes.length + 1
  | .lit _ => 1
  | .nil => 1
  | .ptr d => uptoBulk d + 1
  | .slice elems spare => uptoBulkAll elems + uptoBulkAll spare + 1
  | .agg parts => uptoBulkAll parts + 1
  | .iface _ d => uptoBulk d + 1
  | .map entries => uptoBulkEntries entries + 1
  | .held _ => 1
def uptoBulkAll {H : Type} : List (DataW H) → Nat
  | [] => 0
  | d :: r => uptoBulk d + uptoBulkAll r
def uptoBulkEntries {H : Type} : List (Lit × DataW H) → Nat
  | [] => 0
  | x :: r => uptoBulkEntry x + uptoBulkEntries r
def uptoBulkEntry {H : Type} : Lit × DataW H → Nat
  | (.string bytes, d) => bytes.length + uptoBulk d + 1
  | (_, d) => uptoBulk d + 1
 end
def uptoSmall : (H : Type) → List (DataW H) → Bool := fun _ ds => decide (uptoBulkAll ds ≤ 1048576)
def OpenSpec.upto (s : _root_.Go.ChangeSpec) : _root_.Go.OpenSpec := { _root_.Go.OpenSpec.ofChange s with cond := some uptoSmall }

/-- 'laws.FnExactScalePoint', WHERE WHAT IT READS IS OF BULK AT MOST 1048576: true; the input reads as it did. -/
def fnExactScalePointUptoRow : OpenClaim := { program := "ytndbopccjkiagab", sum := "e58a5f2747ec8f85bb44a468f9e2b067fa8dbb5176b35f33fd1574c3a4f01354", func := "loop.example/g01249/laws.FnExactScalePoint", spec := "fnExactScalePoint", apart := false, narrowed := true }
def FnExactScalePointUptoSaid : Prop := fnExactScalePointUptoRow.holds Try.pinned (OpenSpec.upto fnExactScalePointSpec)

/-- 'laws.FnExactDotOf', WHERE WHAT IT READS IS OF BULK AT MOST 1048576: true; the input reads as it did. -/
def fnExactDotOfUptoRow : OpenClaim := { program := "ytndbopccjkiagab", sum := "e58a5f2747ec8f85bb44a468f9e2b067fa8dbb5176b35f33fd1574c3a4f01354", func := "loop.example/g01249/laws.FnExactDotOf", spec := "fnExactDotOf", apart := false, narrowed := true }
def FnExactDotOfUptoSaid : Prop := fnExactDotOfUptoRow.holds Try.pinned (OpenSpec.upto fnExactDotOfSpec)

/-- 'laws.FnExactCrossOf', WHERE WHAT IT READS IS OF BULK AT MOST 1048576: true; the input reads as it did. -/
def fnExactCrossOfUptoRow : OpenClaim := { program := "ytndbopccjkiagab", sum := "e58a5f2747ec8f85bb44a468f9e2b067fa8dbb5176b35f33fd1574c3a4f01354", func := "loop.example/g01249/laws.FnExactCrossOf", spec := "fnExactCrossOf", unfollowed := true, recurses := true, apart := false, narrowed := true }
def FnExactCrossOfUptoSaid : Prop := fnExactCrossOfUptoRow.holds Try.pinned (OpenSpec.upto fnExactCrossOfSpec)

/-- 'laws.FnExactLengthOf', WHERE WHAT IT READS IS OF BULK AT MOST 1048576: true; the input reads as it did. -/
def fnExactLengthOfUptoRow : OpenClaim := { program := "ytndbopccjkiagab", sum := "e58a5f2747ec8f85bb44a468f9e2b067fa8dbb5176b35f33fd1574c3a4f01354", func := "loop.example/g01249/laws.FnExactLengthOf", spec := "fnExactLengthOf", inPlace := ["math.sqrt"], apart := false, narrowed := true }
def FnExactLengthOfUptoSaid : Prop := fnExactLengthOfUptoRow.holds Try.pinned (OpenSpec.upto fnExactLengthOfSpec)

/-- 'laws.FnExactUnitOf', WHERE WHAT IT READS IS OF BULK AT MOST 1048576: true; the input reads as it did. -/
def fnExactUnitOfUptoRow : OpenClaim := { program := "ytndbopccjkiagab", sum := "e58a5f2747ec8f85bb44a468f9e2b067fa8dbb5176b35f33fd1574c3a4f01354", func := "loop.example/g01249/laws.FnExactUnitOf", spec := "fnExactUnitOf", inPlace := ["math.sqrt", "math.Float64bits", "math.Float64frombits"], apart := false, narrowed := true }
def FnExactUnitOfUptoSaid : Prop := fnExactUnitOfUptoRow.holds Try.pinned (OpenSpec.upto fnExactUnitOfSpec)

/-- 'laws.FnExactDistanceBetween', WHERE WHAT IT READS IS OF BULK AT MOST 1048576: true; the input reads as it did. -/
def fnExactDistanceBetweenUptoRow : OpenClaim := { program := "ytndbopccjkiagab", sum := "e58a5f2747ec8f85bb44a468f9e2b067fa8dbb5176b35f33fd1574c3a4f01354", func := "loop.example/g01249/laws.FnExactDistanceBetween", spec := "fnExactDistanceBetween", inPlace := ["math.sqrt"], apart := false, narrowed := true }
def FnExactDistanceBetweenUptoSaid : Prop := fnExactDistanceBetweenUptoRow.holds Try.pinned (OpenSpec.upto fnExactDistanceBetweenSpec)

/-- 'laws.FnExactBetweenPoints', WHERE WHAT IT READS IS OF BULK AT MOST 1048576: true; the input reads as it did. -/
def fnExactBetweenPointsUptoRow : OpenClaim := { program := "ytndbopccjkiagab", sum := "e58a5f2747ec8f85bb44a468f9e2b067fa8dbb5176b35f33fd1574c3a4f01354", func := "loop.example/g01249/laws.FnExactBetweenPoints", spec := "fnExactBetweenPoints", apart := false, narrowed := true }
def FnExactBetweenPointsUptoSaid : Prop := fnExactBetweenPointsUptoRow.holds Try.pinned (OpenSpec.upto fnExactBetweenPointsSpec)

/-- 'laws.FnExactValidPlane', WHERE WHAT IT READS IS OF BULK AT MOST 1048576: true; the input reads as it did. -/
def fnExactValidPlaneUptoRow : OpenClaim := { program := "ytndbopccjkiagab", sum := "e58a5f2747ec8f85bb44a468f9e2b067fa8dbb5176b35f33fd1574c3a4f01354", func := "loop.example/g01249/laws.FnExactValidPlane", spec := "fnExactValidPlane", inPlace := ["math.sqrt"], apart := false, narrowed := true }
def FnExactValidPlaneUptoSaid : Prop := fnExactValidPlaneUptoRow.holds Try.pinned (OpenSpec.upto fnExactValidPlaneSpec)

/-- 'laws.FnExactSamePlane', WHERE WHAT IT READS IS OF BULK AT MOST 1048576: true; the input reads as it did. -/
def fnExactSamePlaneUptoRow : OpenClaim := { program := "ytndbopccjkiagab", sum := "e58a5f2747ec8f85bb44a468f9e2b067fa8dbb5176b35f33fd1574c3a4f01354", func := "loop.example/g01249/laws.FnExactSamePlane", spec := "fnExactSamePlane", inPlace := ["math.Float32bits"], apart := false, narrowed := true }
def FnExactSamePlaneUptoSaid : Prop := fnExactSamePlaneUptoRow.holds Try.pinned (OpenSpec.upto fnExactSamePlaneSpec)

/-- 'laws.FnExactPlaneThrough', WHERE WHAT IT READS IS OF BULK AT MOST 1048576: true; the input reads as it did. -/
def fnExactPlaneThroughUptoRow : OpenClaim := { program := "ytndbopccjkiagab", sum := "e58a5f2747ec8f85bb44a468f9e2b067fa8dbb5176b35f33fd1574c3a4f01354", func := "loop.example/g01249/laws.FnExactPlaneThrough", spec := "fnExactPlaneThrough", inPlace := ["math.sqrt", "math.Float64bits", "math.Float64frombits"], apart := false, narrowed := true }
def FnExactPlaneThroughUptoSaid : Prop := fnExactPlaneThroughUptoRow.holds Try.pinned (OpenSpec.upto fnExactPlaneThroughSpec)

/-- 'laws.FnExactPlaneAt', WHERE WHAT IT READS IS OF BULK AT MOST 1048576: true; the input reads as it did. -/
def fnExactPlaneAtUptoRow : OpenClaim := { program := "ytndbopccjkiagab", sum := "e58a5f2747ec8f85bb44a468f9e2b067fa8dbb5176b35f33fd1574c3a4f01354", func := "loop.example/g01249/laws.FnExactPlaneAt", spec := "fnExactPlaneAt", inPlace := ["math.sqrt", "math.Float64bits", "math.Float64frombits"], apart := false, narrowed := true }
def FnExactPlaneAtUptoSaid : Prop := fnExactPlaneAtUptoRow.holds Try.pinned (OpenSpec.upto fnExactPlaneAtSpec)

/-- 'laws.FnExactSideOf', WHERE WHAT IT READS IS OF BULK AT MOST 1048576: true; the input reads as it did. -/
def fnExactSideOfUptoRow : OpenClaim := { program := "ytndbopccjkiagab", sum := "e58a5f2747ec8f85bb44a468f9e2b067fa8dbb5176b35f33fd1574c3a4f01354", func := "loop.example/g01249/laws.FnExactSideOf", spec := "fnExactSideOf", inPlace := ["math.sqrt"], apart := false, narrowed := true }
def FnExactSideOfUptoSaid : Prop := fnExactSideOfUptoRow.holds Try.pinned (OpenSpec.upto fnExactSideOfSpec)

end Rows
end Go.Proofs.Ytndbopccjkiagab
