/-
  No cell of these rows narrows 'for every input' (looked for: loops, veiled, ifaces, maps, wideKeys, modest, calm, conditions, laid).
  DERIVED. THE GIVEN ROWS OF THIS SEAT. 12 by the template 'for every input the law returns true; each argument reads behind the call as it read before'; 0 by the template 'total and deterministic' (their statements: YtdjnleomfmfdkabTotals.lean).
  GIVEN WITH THE SEED: the statements are not yours to turn. If you find one false, say at which input.
  Laid BY PROGRAM, IN A SANDBOX (cutbox-rows.mjs): the forced cells as the released guide's own fill.sh prints them over the translation 3da303ab387da299… (all of the seat's roots in one cut). By AI agents, Wed Nov 11 2026. No macro, syntax, notation, axiom, sorry.
-/
import Derived.Test.YtdjnleomfmfdkabChecked
import GoSem.Claim
import GoSem.ClaimJoined
import GoSem.ClaimMapViews
import Derived.JoinedTies
import Derived.KernelRfl
namespace Go.Proofs.Ytdjnleomfmfdkab
/- THE CELL 'sum', in the pinned program and in every row, IS THE sha256 OF THE DUMP (.gsa) THAT YtdjnleomfmfdkabProg.lean LOADS. Nothing in Lean hashes anything: it is a label: what it is worth is what the hold of that sum in a sandbox is worth. -/
noncomputable def Try.pinned : Pinned := { name := "ytdjnleomfmfdkab", sum := "3da303ab387da29964dcb42a1ebd0648b49a2c9dddf0a36d2c1438151dc216bf", checked := Try.checked }
namespace Rows
def none {H : Type} : Left H := { results := [], args := [] }

/-- 'laws.FnExactCrossOf': WHATEVER THE INPUT: true; the input reads as it did. -/
def fnExactCrossOfSpec : ChangeSpec := { name := "fnExactCrossOf", fn := fun _ => fun
  | [d1, d2] => { results := [.lit (.bool true)], args := [d1, d2] }
  | _ => none }
def fnExactCrossOfRow : OpenClaim := { program := "ytdjnleomfmfdkab", sum := "3da303ab387da29964dcb42a1ebd0648b49a2c9dddf0a36d2c1438151dc216bf", func := "loop.example/g01249/laws.FnExactCrossOf", spec := "fnExactCrossOf", unfollowed := true, recurses := true, apart := false }
def FnExactCrossOfSaid : Prop := fnExactCrossOfRow.holds Try.pinned (OpenSpec.ofChange fnExactCrossOfSpec)

/-- ITS FALSE NEIGHBOUR: 'it returns false'. Refute it at one input. -/
def fnExactCrossOfWrong : ChangeSpec := { name := "fnExactCrossOf", fn := fun _ => fun
  | [d1, d2] => { results := [.lit (.bool false)], args := [d1, d2] }
  | _ => none }
def FnExactCrossOfWrongFalsely : Prop := fnExactCrossOfRow.holds Try.pinned (OpenSpec.ofChange fnExactCrossOfWrong)

/-- 'laws.FnExactLengthOf': WHATEVER THE INPUT: true; the input reads as it did. -/
def fnExactLengthOfSpec : ChangeSpec := { name := "fnExactLengthOf", fn := fun _ => fun
  | [d] => { results := [.lit (.bool true)], args := [d] }
  | _ => none }
def fnExactLengthOfRow : OpenClaim := { program := "ytdjnleomfmfdkab", sum := "3da303ab387da29964dcb42a1ebd0648b49a2c9dddf0a36d2c1438151dc216bf", func := "loop.example/g01249/laws.FnExactLengthOf", spec := "fnExactLengthOf", inPlace := ["math.sqrt"], apart := false }
def FnExactLengthOfSaid : Prop := fnExactLengthOfRow.holds Try.pinned (OpenSpec.ofChange fnExactLengthOfSpec)

/-- ITS FALSE NEIGHBOUR: 'it returns false'. Refute it at one input. -/
def fnExactLengthOfWrong : ChangeSpec := { name := "fnExactLengthOf", fn := fun _ => fun
  | [d] => { results := [.lit (.bool false)], args := [d] }
  | _ => none }
def FnExactLengthOfWrongFalsely : Prop := fnExactLengthOfRow.holds Try.pinned (OpenSpec.ofChange fnExactLengthOfWrong)

/-- 'laws.FnExactUnitOf': WHATEVER THE INPUT: true; the input reads as it did. -/
def fnExactUnitOfSpec : ChangeSpec := { name := "fnExactUnitOf", fn := fun _ => fun
  | [d] => { results := [.lit (.bool true)], args := [d] }
  | _ => none }
def fnExactUnitOfRow : OpenClaim := { program := "ytdjnleomfmfdkab", sum := "3da303ab387da29964dcb42a1ebd0648b49a2c9dddf0a36d2c1438151dc216bf", func := "loop.example/g01249/laws.FnExactUnitOf", spec := "fnExactUnitOf", inPlace := ["math.sqrt", "math.Float64bits", "math.Float64frombits"], apart := false }
def FnExactUnitOfSaid : Prop := fnExactUnitOfRow.holds Try.pinned (OpenSpec.ofChange fnExactUnitOfSpec)

/-- ITS FALSE NEIGHBOUR: 'it returns false'. Refute it at one input. -/
def fnExactUnitOfWrong : ChangeSpec := { name := "fnExactUnitOf", fn := fun _ => fun
  | [d] => { results := [.lit (.bool false)], args := [d] }
  | _ => none }
def FnExactUnitOfWrongFalsely : Prop := fnExactUnitOfRow.holds Try.pinned (OpenSpec.ofChange fnExactUnitOfWrong)

/-- 'laws.FnExactDistanceBetween': WHATEVER THE INPUT: true; the input reads as it did. -/
def fnExactDistanceBetweenSpec : ChangeSpec := { name := "fnExactDistanceBetween", fn := fun _ => fun
  | [d1, d2] => { results := [.lit (.bool true)], args := [d1, d2] }
  | _ => none }
def fnExactDistanceBetweenRow : OpenClaim := { program := "ytdjnleomfmfdkab", sum := "3da303ab387da29964dcb42a1ebd0648b49a2c9dddf0a36d2c1438151dc216bf", func := "loop.example/g01249/laws.FnExactDistanceBetween", spec := "fnExactDistanceBetween", inPlace := ["math.sqrt"], apart := false }
def FnExactDistanceBetweenSaid : Prop := fnExactDistanceBetweenRow.holds Try.pinned (OpenSpec.ofChange fnExactDistanceBetweenSpec)

/-- ITS FALSE NEIGHBOUR: 'it returns false'. Refute it at one input. -/
def fnExactDistanceBetweenWrong : ChangeSpec := { name := "fnExactDistanceBetween", fn := fun _ => fun
  | [d1, d2] => { results := [.lit (.bool false)], args := [d1, d2] }
  | _ => none }
def FnExactDistanceBetweenWrongFalsely : Prop := fnExactDistanceBetweenRow.holds Try.pinned (OpenSpec.ofChange fnExactDistanceBetweenWrong)

/-- 'laws.FnExactBetweenPoints': WHATEVER THE INPUT: true; the input reads as it did. -/
def fnExactBetweenPointsSpec : ChangeSpec := { name := "fnExactBetweenPoints", fn := fun _ => fun
  | [d1, d2, d3] => { results := [.lit (.bool true)], args := [d1, d2, d3] }
  | _ => none }
def fnExactBetweenPointsRow : OpenClaim := { program := "ytdjnleomfmfdkab", sum := "3da303ab387da29964dcb42a1ebd0648b49a2c9dddf0a36d2c1438151dc216bf", func := "loop.example/g01249/laws.FnExactBetweenPoints", spec := "fnExactBetweenPoints", apart := false }
def FnExactBetweenPointsSaid : Prop := fnExactBetweenPointsRow.holds Try.pinned (OpenSpec.ofChange fnExactBetweenPointsSpec)

/-- ITS FALSE NEIGHBOUR: 'it returns false'. Refute it at one input. -/
def fnExactBetweenPointsWrong : ChangeSpec := { name := "fnExactBetweenPoints", fn := fun _ => fun
  | [d1, d2, d3] => { results := [.lit (.bool false)], args := [d1, d2, d3] }
  | _ => none }
def FnExactBetweenPointsWrongFalsely : Prop := fnExactBetweenPointsRow.holds Try.pinned (OpenSpec.ofChange fnExactBetweenPointsWrong)

/-- 'laws.FnExactValidPlane': WHATEVER THE INPUT: true; the input reads as it did. -/
def fnExactValidPlaneSpec : ChangeSpec := { name := "fnExactValidPlane", fn := fun _ => fun
  | [d] => { results := [.lit (.bool true)], args := [d] }
  | _ => none }
def fnExactValidPlaneRow : OpenClaim := { program := "ytdjnleomfmfdkab", sum := "3da303ab387da29964dcb42a1ebd0648b49a2c9dddf0a36d2c1438151dc216bf", func := "loop.example/g01249/laws.FnExactValidPlane", spec := "fnExactValidPlane", inPlace := ["math.sqrt"], apart := false }
def FnExactValidPlaneSaid : Prop := fnExactValidPlaneRow.holds Try.pinned (OpenSpec.ofChange fnExactValidPlaneSpec)

/-- ITS FALSE NEIGHBOUR: 'it returns false'. Refute it at one input. -/
def fnExactValidPlaneWrong : ChangeSpec := { name := "fnExactValidPlane", fn := fun _ => fun
  | [d] => { results := [.lit (.bool false)], args := [d] }
  | _ => none }
def FnExactValidPlaneWrongFalsely : Prop := fnExactValidPlaneRow.holds Try.pinned (OpenSpec.ofChange fnExactValidPlaneWrong)

/-- 'laws.FnExactSamePlane': WHATEVER THE INPUT: true; the input reads as it did. -/
def fnExactSamePlaneSpec : ChangeSpec := { name := "fnExactSamePlane", fn := fun _ => fun
  | [d1, d2] => { results := [.lit (.bool true)], args := [d1, d2] }
  | _ => none }
def fnExactSamePlaneRow : OpenClaim := { program := "ytdjnleomfmfdkab", sum := "3da303ab387da29964dcb42a1ebd0648b49a2c9dddf0a36d2c1438151dc216bf", func := "loop.example/g01249/laws.FnExactSamePlane", spec := "fnExactSamePlane", inPlace := ["math.Float32bits"], apart := false }
def FnExactSamePlaneSaid : Prop := fnExactSamePlaneRow.holds Try.pinned (OpenSpec.ofChange fnExactSamePlaneSpec)

/-- ITS FALSE NEIGHBOUR: 'it returns false'. Refute it at one input. -/
def fnExactSamePlaneWrong : ChangeSpec := { name := "fnExactSamePlane", fn := fun _ => fun
  | [d1, d2] => { results := [.lit (.bool false)], args := [d1, d2] }
  | _ => none }
def FnExactSamePlaneWrongFalsely : Prop := fnExactSamePlaneRow.holds Try.pinned (OpenSpec.ofChange fnExactSamePlaneWrong)

/-- 'laws.FnExactPlaneThrough': WHATEVER THE INPUT: true; the input reads as it did. -/
def fnExactPlaneThroughSpec : ChangeSpec := { name := "fnExactPlaneThrough", fn := fun _ => fun
  | [d1, d2, d3] => { results := [.lit (.bool true)], args := [d1, d2, d3] }
  | _ => none }
def fnExactPlaneThroughRow : OpenClaim := { program := "ytdjnleomfmfdkab", sum := "3da303ab387da29964dcb42a1ebd0648b49a2c9dddf0a36d2c1438151dc216bf", func := "loop.example/g01249/laws.FnExactPlaneThrough", spec := "fnExactPlaneThrough", inPlace := ["math.sqrt", "math.Float64bits", "math.Float64frombits"], apart := false }
def FnExactPlaneThroughSaid : Prop := fnExactPlaneThroughRow.holds Try.pinned (OpenSpec.ofChange fnExactPlaneThroughSpec)

/-- ITS FALSE NEIGHBOUR: 'it returns false'. Refute it at one input. -/
def fnExactPlaneThroughWrong : ChangeSpec := { name := "fnExactPlaneThrough", fn := fun _ => fun
  | [d1, d2, d3] => { results := [.lit (.bool false)], args := [d1, d2, d3] }
  | _ => none }
def FnExactPlaneThroughWrongFalsely : Prop := fnExactPlaneThroughRow.holds Try.pinned (OpenSpec.ofChange fnExactPlaneThroughWrong)

/-- 'laws.FnExactPlaneAt': WHATEVER THE INPUT: true; the input reads as it did. -/
def fnExactPlaneAtSpec : ChangeSpec := { name := "fnExactPlaneAt", fn := fun _ => fun
  | [d1, d2] => { results := [.lit (.bool true)], args := [d1, d2] }
  | _ => none }
def fnExactPlaneAtRow : OpenClaim := { program := "ytdjnleomfmfdkab", sum := "3da303ab387da29964dcb42a1ebd0648b49a2c9dddf0a36d2c1438151dc216bf", func := "loop.example/g01249/laws.FnExactPlaneAt", spec := "fnExactPlaneAt", inPlace := ["math.sqrt", "math.Float64bits", "math.Float64frombits"], apart := false }
def FnExactPlaneAtSaid : Prop := fnExactPlaneAtRow.holds Try.pinned (OpenSpec.ofChange fnExactPlaneAtSpec)

/-- ITS FALSE NEIGHBOUR: 'it returns false'. Refute it at one input. -/
def fnExactPlaneAtWrong : ChangeSpec := { name := "fnExactPlaneAt", fn := fun _ => fun
  | [d1, d2] => { results := [.lit (.bool false)], args := [d1, d2] }
  | _ => none }
def FnExactPlaneAtWrongFalsely : Prop := fnExactPlaneAtRow.holds Try.pinned (OpenSpec.ofChange fnExactPlaneAtWrong)

/-- 'laws.FnExactSideOf': WHATEVER THE INPUT: true; the input reads as it did. -/
def fnExactSideOfSpec : ChangeSpec := { name := "fnExactSideOf", fn := fun _ => fun
  | [d1, d2] => { results := [.lit (.bool true)], args := [d1, d2] }
  | _ => none }
def fnExactSideOfRow : OpenClaim := { program := "ytdjnleomfmfdkab", sum := "3da303ab387da29964dcb42a1ebd0648b49a2c9dddf0a36d2c1438151dc216bf", func := "loop.example/g01249/laws.FnExactSideOf", spec := "fnExactSideOf", inPlace := ["math.sqrt"], apart := false }
def FnExactSideOfSaid : Prop := fnExactSideOfRow.holds Try.pinned (OpenSpec.ofChange fnExactSideOfSpec)

/-- ITS FALSE NEIGHBOUR: 'it returns false'. Refute it at one input. -/
def fnExactSideOfWrong : ChangeSpec := { name := "fnExactSideOf", fn := fun _ => fun
  | [d1, d2] => { results := [.lit (.bool false)], args := [d1, d2] }
  | _ => none }
def FnExactSideOfWrongFalsely : Prop := fnExactSideOfRow.holds Try.pinned (OpenSpec.ofChange fnExactSideOfWrong)

/-- 'laws.FnExactFootOf': WHATEVER THE INPUT: true; the input reads as it did. -/
def fnExactFootOfSpec : ChangeSpec := { name := "fnExactFootOf", fn := fun _ => fun
  | [d1, d2] => { results := [.lit (.bool true)], args := [d1, d2] }
  | _ => none }
def fnExactFootOfRow : OpenClaim := { program := "ytdjnleomfmfdkab", sum := "3da303ab387da29964dcb42a1ebd0648b49a2c9dddf0a36d2c1438151dc216bf", func := "loop.example/g01249/laws.FnExactFootOf", spec := "fnExactFootOf", inPlace := ["math.sqrt"], apart := false }
def FnExactFootOfSaid : Prop := fnExactFootOfRow.holds Try.pinned (OpenSpec.ofChange fnExactFootOfSpec)

/-- ITS FALSE NEIGHBOUR: 'it returns false'. Refute it at one input. -/
def fnExactFootOfWrong : ChangeSpec := { name := "fnExactFootOf", fn := fun _ => fun
  | [d1, d2] => { results := [.lit (.bool false)], args := [d1, d2] }
  | _ => none }
def FnExactFootOfWrongFalsely : Prop := fnExactFootOfRow.holds Try.pinned (OpenSpec.ofChange fnExactFootOfWrong)

/-- 'laws.FnExactMirrorPoint': WHATEVER THE INPUT: true; the input reads as it did. -/
def fnExactMirrorPointSpec : ChangeSpec := { name := "fnExactMirrorPoint", fn := fun _ => fun
  | [d1, d2] => { results := [.lit (.bool true)], args := [d1, d2] }
  | _ => none }
def fnExactMirrorPointRow : OpenClaim := { program := "ytdjnleomfmfdkab", sum := "3da303ab387da29964dcb42a1ebd0648b49a2c9dddf0a36d2c1438151dc216bf", func := "loop.example/g01249/laws.FnExactMirrorPoint", spec := "fnExactMirrorPoint", inPlace := ["math.sqrt"], apart := false }
def FnExactMirrorPointSaid : Prop := fnExactMirrorPointRow.holds Try.pinned (OpenSpec.ofChange fnExactMirrorPointSpec)

/-- ITS FALSE NEIGHBOUR: 'it returns false'. Refute it at one input. -/
def fnExactMirrorPointWrong : ChangeSpec := { name := "fnExactMirrorPoint", fn := fun _ => fun
  | [d1, d2] => { results := [.lit (.bool false)], args := [d1, d2] }
  | _ => none }
def FnExactMirrorPointWrongFalsely : Prop := fnExactMirrorPointRow.holds Try.pinned (OpenSpec.ofChange fnExactMirrorPointWrong)

/- THE SECOND FORM. 'bulk': how many values and letters a reading holds, each counted each time it is reached (what is shared counts as often as it is met; a slice's spare places count too). A statement '..UptoSaid' is the law's where the arguments, and the package variables that the reading takes, are together of bulk at most 1048576: NARROWER than '..Said'. Prove '..Said' where nothing that the law and all that it calls make is longer than what came in: it says more and counts as full. Else prove '..UptoSaid'. A law counts once. -/
mutual
def uptoBulk {H : Type} : DataW H → Nat
  | .lit (.string bytes) => bytes.length + 1
  | .lit _ => 1
  | .nil => 1
  | .ptr d => uptoBulk d + 1
  | .slice elems spare => uptoBulkAll elems + uptoBulkAll spare + 1
  | .agg parts => uptoBulkAll parts + 1
  | .iface _ d => uptoBulk d + 1
  | .map entries => uptoBulkEntries entries + 1
  | .held _ => 1
def uptoBulkAll {H : Type} : List (DataW H) → Nat
  | [] => 0
  | d :: r => uptoBulk d + uptoBulkAll r
def uptoBulkEntries {H : Type} : List (Lit × DataW H) → Nat
  | [] => 0
  | x :: r => uptoBulkEntry x + uptoBulkEntries r
def uptoBulkEntry {H : Type} : Lit × DataW H → Nat
  | (.string bytes, d) => bytes.length + uptoBulk d + 1
  | (_, d) => uptoBulk d + 1
 end
def uptoSmall : (H : Type) → List (DataW H) → Bool := fun _ ds => decide (uptoBulkAll ds ≤ 1048576)
def OpenSpec.upto (s : _root_.Go.ChangeSpec) : _root_.Go.OpenSpec := { _root_.Go.OpenSpec.ofChange s with cond := some uptoSmall }

/-- 'laws.FnExactCrossOf', WHERE WHAT IT READS IS OF BULK AT MOST 1048576: true; the input reads as it did. -/
def fnExactCrossOfUptoRow : OpenClaim := { program := "ytdjnleomfmfdkab", sum := "3da303ab387da29964dcb42a1ebd0648b49a2c9dddf0a36d2c1438151dc216bf", func := "loop.example/g01249/laws.FnExactCrossOf", spec := "fnExactCrossOf", unfollowed := true, recurses := true, apart := false, narrowed := true }
def FnExactCrossOfUptoSaid : Prop := fnExactCrossOfUptoRow.holds Try.pinned (OpenSpec.upto fnExactCrossOfSpec)

/-- 'laws.FnExactLengthOf', WHERE WHAT IT READS IS OF BULK AT MOST 1048576: true; the input reads as it did. -/
def fnExactLengthOfUptoRow : OpenClaim := { program := "ytdjnleomfmfdkab", sum := "3da303ab387da29964dcb42a1ebd0648b49a2c9dddf0a36d2c1438151dc216bf", func := "loop.example/g01249/laws.FnExactLengthOf", spec := "fnExactLengthOf", inPlace := ["math.sqrt"], apart := false, narrowed := true }
def FnExactLengthOfUptoSaid : Prop := fnExactLengthOfUptoRow.holds Try.pinned (OpenSpec.upto fnExactLengthOfSpec)

/-- 'laws.FnExactUnitOf', WHERE WHAT IT READS IS OF BULK AT MOST 1048576: true; the input reads as it did. -/
def fnExactUnitOfUptoRow : OpenClaim := { program := "ytdjnleomfmfdkab", sum := "3da303ab387da29964dcb42a1ebd0648b49a2c9dddf0a36d2c1438151dc216bf", func := "loop.example/g01249/laws.FnExactUnitOf", spec := "fnExactUnitOf", inPlace := ["math.sqrt", "math.Float64bits", "math.Float64frombits"], apart := false, narrowed := true }
def FnExactUnitOfUptoSaid : Prop := fnExactUnitOfUptoRow.holds Try.pinned (OpenSpec.upto fnExactUnitOfSpec)

/-- 'laws.FnExactDistanceBetween', WHERE WHAT IT READS IS OF BULK AT MOST 1048576: true; the input reads as it did. -/
def fnExactDistanceBetweenUptoRow : OpenClaim := { program := "ytdjnleomfmfdkab", sum := "3da303ab387da29964dcb42a1ebd0648b49a2c9dddf0a36d2c1438151dc216bf", func := "loop.example/g01249/laws.FnExactDistanceBetween", spec := "fnExactDistanceBetween", inPlace := ["math.sqrt"], apart := false, narrowed := true }
def FnExactDistanceBetweenUptoSaid : Prop := fnExactDistanceBetweenUptoRow.holds Try.pinned (OpenSpec.upto fnExactDistanceBetweenSpec)

/-- 'laws.FnExactBetweenPoints', WHERE WHAT IT READS IS OF BULK AT MOST 1048576: true; the input reads as it did. -/
def fnExactBetweenPointsUptoRow : OpenClaim := { program := "ytdjnleomfmfdkab", sum := "3da303ab387da29964dcb42a1ebd0648b49a2c9dddf0a36d2c1438151dc216bf", func := "loop.example/g01249/laws.FnExactBetweenPoints", spec := "fnExactBetweenPoints", apart := false, narrowed := true }
def FnExactBetweenPointsUptoSaid : Prop := fnExactBetweenPointsUptoRow.holds Try.pinned (OpenSpec.upto fnExactBetweenPointsSpec)

/-- 'laws.FnExactValidPlane', WHERE WHAT IT READS IS OF BULK AT MOST 1048576: true; the input reads as it did. -/
def fnExactValidPlaneUptoRow : OpenClaim := { program := "ytdjnleomfmfdkab", sum := "3da303ab387da29964dcb42a1ebd0648b49a2c9dddf0a36d2c1438151dc216bf", func := "loop.example/g01249/laws.FnExactValidPlane", spec := "fnExactValidPlane", inPlace := ["math.sqrt"], apart := false, narrowed := true }
def FnExactValidPlaneUptoSaid : Prop := fnExactValidPlaneUptoRow.holds Try.pinned (OpenSpec.upto fnExactValidPlaneSpec)

/-- 'laws.FnExactSamePlane', WHERE WHAT IT READS IS OF BULK AT MOST 1048576: true; the input reads as it did. -/
def fnExactSamePlaneUptoRow : OpenClaim := { program := "ytdjnleomfmfdkab", sum := "3da303ab387da29964dcb42a1ebd0648b49a2c9dddf0a36d2c1438151dc216bf", func := "loop.example/g01249/laws.FnExactSamePlane", spec := "fnExactSamePlane", inPlace := ["math.Float32bits"], apart := false, narrowed := true }
def FnExactSamePlaneUptoSaid : Prop := fnExactSamePlaneUptoRow.holds Try.pinned (OpenSpec.upto fnExactSamePlaneSpec)

/-- 'laws.FnExactPlaneThrough', WHERE WHAT IT READS IS OF BULK AT MOST 1048576: true; the input reads as it did. -/
def fnExactPlaneThroughUptoRow : OpenClaim := { program := "ytdjnleomfmfdkab", sum := "3da303ab387da29964dcb42a1ebd0648b49a2c9dddf0a36d2c1438151dc216bf", func := "loop.example/g01249/laws.FnExactPlaneThrough", spec := "fnExactPlaneThrough", inPlace := ["math.sqrt", "math.Float64bits", "math.Float64frombits"], apart := false, narrowed := true }
def FnExactPlaneThroughUptoSaid : Prop := fnExactPlaneThroughUptoRow.holds Try.pinned (OpenSpec.upto fnExactPlaneThroughSpec)

/-- 'laws.FnExactPlaneAt', WHERE WHAT IT READS IS OF BULK AT MOST 1048576: true; the input reads as it did. -/
def fnExactPlaneAtUptoRow : OpenClaim := { program := "ytdjnleomfmfdkab", sum := "3da303ab387da29964dcb42a1ebd0648b49a2c9dddf0a36d2c1438151dc216bf", func := "loop.example/g01249/laws.FnExactPlaneAt", spec := "fnExactPlaneAt", inPlace := ["math.sqrt", "math.Float64bits", "math.Float64frombits"], apart := false, narrowed := true }
def FnExactPlaneAtUptoSaid : Prop := fnExactPlaneAtUptoRow.holds Try.pinned (OpenSpec.upto fnExactPlaneAtSpec)

/-- 'laws.FnExactSideOf', WHERE WHAT IT READS IS OF BULK AT MOST 1048576: true; the input reads as it did. -/
def fnExactSideOfUptoRow : OpenClaim := { program := "ytdjnleomfmfdkab", sum := "3da303ab387da29964dcb42a1ebd0648b49a2c9dddf0a36d2c1438151dc216bf", func := "loop.example/g01249/laws.FnExactSideOf", spec := "fnExactSideOf", inPlace := ["math.sqrt"], apart := false, narrowed := true }
def FnExactSideOfUptoSaid : Prop := fnExactSideOfUptoRow.holds Try.pinned (OpenSpec.upto fnExactSideOfSpec)

/-- 'laws.FnExactFootOf', WHERE WHAT IT READS IS OF BULK AT MOST 1048576: true; the input reads as it did. -/
def fnExactFootOfUptoRow : OpenClaim := { program := "ytdjnleomfmfdkab", sum := "3da303ab387da29964dcb42a1ebd0648b49a2c9dddf0a36d2c1438151dc216bf", func := "loop.example/g01249/laws.FnExactFootOf", spec := "fnExactFootOf", inPlace := ["math.sqrt"], apart := false, narrowed := true }
def FnExactFootOfUptoSaid : Prop := fnExactFootOfUptoRow.holds Try.pinned (OpenSpec.upto fnExactFootOfSpec)

/-- 'laws.FnExactMirrorPoint', WHERE WHAT IT READS IS OF BULK AT MOST 1048576: true; the input reads as it did. -/
def fnExactMirrorPointUptoRow : OpenClaim := { program := "ytdjnleomfmfdkab", sum := "3da303ab387da29964dcb42a1ebd0648b49a2c9dddf0a36d2c1438151dc216bf", func := "loop.example/g01249/laws.FnExactMirrorPoint", spec := "fnExactMirrorPoint", inPlace := ["math.sqrt"], apart := false, narrowed := true }
def FnExactMirrorPointUptoSaid : Prop := fnExactMirrorPointUptoRow.holds Try.pinned (OpenSpec.upto fnExactMirrorPointSpec)

end Rows
end Go.Proofs.Ytdjnleomfmfdkab
