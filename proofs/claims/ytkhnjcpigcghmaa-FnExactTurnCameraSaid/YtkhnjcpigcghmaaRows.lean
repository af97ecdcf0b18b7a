/-
  No cell of these rows narrows 'for every input' (looked for: loops, veiled, ifaces, maps, wideKeys, modest, calm, conditions, laid).
  DERIVED. THE GIVEN ROWS OF THIS SEAT. 12 by the template 'for every input the law returns true; each argument reads behind the call as it read before'; 0 by the template 'total and deterministic' (their statements: YtkhnjcpigcghmaaTotals.lean).
  GIVEN WITH THE SEED: the statements are not yours to turn. If you find one false, say at which input.
  Laid BY PROGRAM, IN A SANDBOX (cutbox-rows.mjs): the forced cells as the released guide's own fill.sh prints them over the translation 461ed8a657f7763e… (all of the seat's roots in one cut). By AI agents, Wed Nov 11 2026. No macro, syntax, notation, axiom, sorry.
-/
import Derived.Test.YtkhnjcpigcghmaaChecked
import GoSem.Claim
import GoSem.ClaimJoined
import GoSem.ClaimMapViews
import Derived.JoinedTies
import Derived.KernelRfl
namespace Go.Proofs.Ytkhnjcpigcghmaa
/- THE CELL 'sum', in the pinned program and in every row, IS THE sha256 OF THE DUMP (.gsa) THAT YtkhnjcpigcghmaaProg.lean LOADS. Nothing in Lean hashes anything: it is a label: what it is worth is what the hold of that sum in a sandbox is worth. -/
noncomputable def Try.pinned : Pinned := { name := "ytkhnjcpigcghmaa", sum := "461ed8a657f7763ebea94df5a9c7fe15f83e7550e382af3b23c77ee70390c205", checked := Try.checked }
namespace Rows
def none {H : Type} : Left H := { results := [], args := [] }

/-- 'laws.FnExactSineOf': WHATEVER THE INPUT: true; the input reads as it did. -/
def fnExactSineOfSpec : ChangeSpec := { name := "fnExactSineOf", fn := fun _ => fun
  | [d] => { results := [.lit (.bool true)], args := [d] }
  | _ => none }
def fnExactSineOfRow : OpenClaim := { program := "ytkhnjcpigcghmaa", sum := "461ed8a657f7763ebea94df5a9c7fe15f83e7550e382af3b23c77ee70390c205", func := "loop.example/g01249/laws.FnExactSineOf", spec := "fnExactSineOf", inPlace := ["math.Float64frombits", "math.RoundToEven"], apart := false }
def FnExactSineOfSaid : Prop := fnExactSineOfRow.holds Try.pinned (OpenSpec.ofChange fnExactSineOfSpec)

/-- ITS FALSE NEIGHBOUR: 'it returns false'. Refute it at one input. -/
def fnExactSineOfWrong : ChangeSpec := { name := "fnExactSineOf", fn := fun _ => fun
  | [d] => { results := [.lit (.bool false)], args := [d] }
  | _ => none }
def FnExactSineOfWrongFalsely : Prop := fnExactSineOfRow.holds Try.pinned (OpenSpec.ofChange fnExactSineOfWrong)

/-- 'laws.FnExactTurnAround': WHATEVER THE INPUT: true; the input reads as it did. -/
def fnExactTurnAroundSpec : ChangeSpec := { name := "fnExactTurnAround", fn := fun _ => fun
  | [d1, d2, d3] => { results := [.lit (.bool true)], args := [d1, d2, d3] }
  | _ => none }
def fnExactTurnAroundRow : OpenClaim := { program := "ytkhnjcpigcghmaa", sum := "461ed8a657f7763ebea94df5a9c7fe15f83e7550e382af3b23c77ee70390c205", func := "loop.example/g01249/laws.FnExactTurnAround", spec := "fnExactTurnAround", inPlace := ["math.sqrt", "math.Float64frombits", "math.RoundToEven", "math.Float64bits"], apart := false }
def FnExactTurnAroundSaid : Prop := fnExactTurnAroundRow.holds Try.pinned (OpenSpec.ofChange fnExactTurnAroundSpec)

/-- ITS FALSE NEIGHBOUR: 'it returns false'. Refute it at one input. -/
def fnExactTurnAroundWrong : ChangeSpec := { name := "fnExactTurnAround", fn := fun _ => fun
  | [d1, d2, d3] => { results := [.lit (.bool false)], args := [d1, d2, d3] }
  | _ => none }
def FnExactTurnAroundWrongFalsely : Prop := fnExactTurnAroundRow.holds Try.pinned (OpenSpec.ofChange fnExactTurnAroundWrong)

/-- 'laws.FnExactProjectPoint': WHATEVER THE INPUT: true; the input reads as it did. -/
def fnExactProjectPointSpec : ChangeSpec := { name := "fnExactProjectPoint", fn := fun _ => fun
  | [d1, d2] => { results := [.lit (.bool true)], args := [d1, d2] }
  | _ => none }
def fnExactProjectPointRow : OpenClaim := { program := "ytkhnjcpigcghmaa", sum := "461ed8a657f7763ebea94df5a9c7fe15f83e7550e382af3b23c77ee70390c205", func := "loop.example/g01249/laws.FnExactProjectPoint", spec := "fnExactProjectPoint", inPlace := ["math.sqrt", "math.Float64bits", "math.Float64frombits"], unfollowed := true, recurses := true, apart := false }
def FnExactProjectPointSaid : Prop := fnExactProjectPointRow.holds Try.pinned (OpenSpec.ofChange fnExactProjectPointSpec)

/-- ITS FALSE NEIGHBOUR: 'it returns false'. Refute it at one input. -/
def fnExactProjectPointWrong : ChangeSpec := { name := "fnExactProjectPoint", fn := fun _ => fun
  | [d1, d2] => { results := [.lit (.bool false)], args := [d1, d2] }
  | _ => none }
def FnExactProjectPointWrongFalsely : Prop := fnExactProjectPointRow.holds Try.pinned (OpenSpec.ofChange fnExactProjectPointWrong)

/-- 'laws.FnExactRayThrough': WHATEVER THE INPUT: true; the input reads as it did. -/
def fnExactRayThroughSpec : ChangeSpec := { name := "fnExactRayThrough", fn := fun _ => fun
  | [d1, d2] => { results := [.lit (.bool true)], args := [d1, d2] }
  | _ => none }
def fnExactRayThroughRow : OpenClaim := { program := "ytkhnjcpigcghmaa", sum := "461ed8a657f7763ebea94df5a9c7fe15f83e7550e382af3b23c77ee70390c205", func := "loop.example/g01249/laws.FnExactRayThrough", spec := "fnExactRayThrough", inPlace := ["math.sqrt", "math.Float64bits", "math.Float64frombits"], apart := false }
def FnExactRayThroughSaid : Prop := fnExactRayThroughRow.holds Try.pinned (OpenSpec.ofChange fnExactRayThroughSpec)

/-- ITS FALSE NEIGHBOUR: 'it returns false'. Refute it at one input. -/
def fnExactRayThroughWrong : ChangeSpec := { name := "fnExactRayThrough", fn := fun _ => fun
  | [d1, d2] => { results := [.lit (.bool false)], args := [d1, d2] }
  | _ => none }
def FnExactRayThroughWrongFalsely : Prop := fnExactRayThroughRow.holds Try.pinned (OpenSpec.ofChange fnExactRayThroughWrong)

/-- 'laws.FnExactPointAt': WHATEVER THE INPUT: true; the input reads as it did. -/
def fnExactPointAtSpec : ChangeSpec := { name := "fnExactPointAt", fn := fun _ => fun
  | [d1, d2, d3] => { results := [.lit (.bool true)], args := [d1, d2, d3] }
  | _ => none }
def fnExactPointAtRow : OpenClaim := { program := "ytkhnjcpigcghmaa", sum := "461ed8a657f7763ebea94df5a9c7fe15f83e7550e382af3b23c77ee70390c205", func := "loop.example/g01249/laws.FnExactPointAt", spec := "fnExactPointAt", inPlace := ["math.sqrt", "math.Float64bits", "math.Float64frombits"], apart := false }
def FnExactPointAtSaid : Prop := fnExactPointAtRow.holds Try.pinned (OpenSpec.ofChange fnExactPointAtSpec)

/-- ITS FALSE NEIGHBOUR: 'it returns false'. Refute it at one input. -/
def fnExactPointAtWrong : ChangeSpec := { name := "fnExactPointAt", fn := fun _ => fun
  | [d1, d2, d3] => { results := [.lit (.bool false)], args := [d1, d2, d3] }
  | _ => none }
def FnExactPointAtWrongFalsely : Prop := fnExactPointAtRow.holds Try.pinned (OpenSpec.ofChange fnExactPointAtWrong)

/-- 'laws.FnExactVanishingSpot': WHATEVER THE INPUT: true; the input reads as it did. -/
def fnExactVanishingSpotSpec : ChangeSpec := { name := "fnExactVanishingSpot", fn := fun _ => fun
  | [d1, d2] => { results := [.lit (.bool true)], args := [d1, d2] }
  | _ => none }
def fnExactVanishingSpotRow : OpenClaim := { program := "ytkhnjcpigcghmaa", sum := "461ed8a657f7763ebea94df5a9c7fe15f83e7550e382af3b23c77ee70390c205", func := "loop.example/g01249/laws.FnExactVanishingSpot", spec := "fnExactVanishingSpot", inPlace := ["math.sqrt", "math.Float64bits", "math.Float64frombits"], unfollowed := true, recurses := true, apart := false }
def FnExactVanishingSpotSaid : Prop := fnExactVanishingSpotRow.holds Try.pinned (OpenSpec.ofChange fnExactVanishingSpotSpec)

/-- ITS FALSE NEIGHBOUR: 'it returns false'. Refute it at one input. -/
def fnExactVanishingSpotWrong : ChangeSpec := { name := "fnExactVanishingSpot", fn := fun _ => fun
  | [d1, d2] => { results := [.lit (.bool false)], args := [d1, d2] }
  | _ => none }
def FnExactVanishingSpotWrongFalsely : Prop := fnExactVanishingSpotRow.holds Try.pinned (OpenSpec.ofChange fnExactVanishingSpotWrong)

/-- 'laws.FnExactHorizonOf': WHATEVER THE INPUT: true; the input reads as it did. -/
def fnExactHorizonOfSpec : ChangeSpec := { name := "fnExactHorizonOf", fn := fun _ => fun
  | [d1, d2] => { results := [.lit (.bool true)], args := [d1, d2] }
  | _ => none }
def fnExactHorizonOfRow : OpenClaim := { program := "ytkhnjcpigcghmaa", sum := "461ed8a657f7763ebea94df5a9c7fe15f83e7550e382af3b23c77ee70390c205", func := "loop.example/g01249/laws.FnExactHorizonOf", spec := "fnExactHorizonOf", inPlace := ["math.sqrt", "math.Float64bits", "math.Float64frombits"], apart := false }
def FnExactHorizonOfSaid : Prop := fnExactHorizonOfRow.holds Try.pinned (OpenSpec.ofChange fnExactHorizonOfSpec)

/-- ITS FALSE NEIGHBOUR: 'it returns false'. Refute it at one input. -/
def fnExactHorizonOfWrong : ChangeSpec := { name := "fnExactHorizonOf", fn := fun _ => fun
  | [d1, d2] => { results := [.lit (.bool false)], args := [d1, d2] }
  | _ => none }
def FnExactHorizonOfWrongFalsely : Prop := fnExactHorizonOfRow.holds Try.pinned (OpenSpec.ofChange fnExactHorizonOfWrong)

/-- 'laws.FnExactSeenOnPlane': WHATEVER THE INPUT: true; the input reads as it did. -/
def fnExactSeenOnPlaneSpec : ChangeSpec := { name := "fnExactSeenOnPlane", fn := fun _ => fun
  | [d1, d2, d3] => { results := [.lit (.bool true)], args := [d1, d2, d3] }
  | _ => none }
def fnExactSeenOnPlaneRow : OpenClaim := { program := "ytkhnjcpigcghmaa", sum := "461ed8a657f7763ebea94df5a9c7fe15f83e7550e382af3b23c77ee70390c205", func := "loop.example/g01249/laws.FnExactSeenOnPlane", spec := "fnExactSeenOnPlane", inPlace := ["math.sqrt", "math.Float64bits", "math.Float64frombits"], apart := false }
def FnExactSeenOnPlaneSaid : Prop := fnExactSeenOnPlaneRow.holds Try.pinned (OpenSpec.ofChange fnExactSeenOnPlaneSpec)

/-- ITS FALSE NEIGHBOUR: 'it returns false'. Refute it at one input. -/
def fnExactSeenOnPlaneWrong : ChangeSpec := { name := "fnExactSeenOnPlane", fn := fun _ => fun
  | [d1, d2, d3] => { results := [.lit (.bool false)], args := [d1, d2, d3] }
  | _ => none }
def FnExactSeenOnPlaneWrongFalsely : Prop := fnExactSeenOnPlaneRow.holds Try.pinned (OpenSpec.ofChange fnExactSeenOnPlaneWrong)

/-- 'laws.FnExactMoveCamera': WHATEVER THE INPUT: true; the input reads as it did. -/
def fnExactMoveCameraSpec : ChangeSpec := { name := "fnExactMoveCamera", fn := fun _ => fun
  | [d1, d2, d3, d4] => { results := [.lit (.bool true)], args := [d1, d2, d3, d4] }
  | _ => none }
def fnExactMoveCameraRow : OpenClaim := { program := "ytkhnjcpigcghmaa", sum := "461ed8a657f7763ebea94df5a9c7fe15f83e7550e382af3b23c77ee70390c205", func := "loop.example/g01249/laws.FnExactMoveCamera", spec := "fnExactMoveCamera", inPlace := ["math.sqrt", "math.Float64bits", "math.Float64frombits"], apart := false }
def FnExactMoveCameraSaid : Prop := fnExactMoveCameraRow.holds Try.pinned (OpenSpec.ofChange fnExactMoveCameraSpec)

/-- ITS FALSE NEIGHBOUR: 'it returns false'. Refute it at one input. -/
def fnExactMoveCameraWrong : ChangeSpec := { name := "fnExactMoveCamera", fn := fun _ => fun
  | [d1, d2, d3, d4] => { results := [.lit (.bool false)], args := [d1, d2, d3, d4] }
  | _ => none }
def FnExactMoveCameraWrongFalsely : Prop := fnExactMoveCameraRow.holds Try.pinned (OpenSpec.ofChange fnExactMoveCameraWrong)

/-- 'laws.FnExactTurnCamera': WHATEVER THE INPUT: true; the input reads as it did. -/
def fnExactTurnCameraSpec : ChangeSpec := { name := "fnExactTurnCamera", fn := fun _ => fun
  | [d1, d2] => { results := [.lit (.bool true)], args := [d1, d2] }
  | _ => none }
def fnExactTurnCameraRow : OpenClaim := { program := "ytkhnjcpigcghmaa", sum := "461ed8a657f7763ebea94df5a9c7fe15f83e7550e382af3b23c77ee70390c205", func := "loop.example/g01249/laws.FnExactTurnCamera", spec := "fnExactTurnCamera", inPlace := ["math.sqrt", "math.Float64frombits", "math.RoundToEven", "math.Float64bits"], apart := false }
def FnExactTurnCameraSaid : Prop := fnExactTurnCameraRow.holds Try.pinned (OpenSpec.ofChange fnExactTurnCameraSpec)

/-- ITS FALSE NEIGHBOUR: 'it returns false'. Refute it at one input. -/
def fnExactTurnCameraWrong : ChangeSpec := { name := "fnExactTurnCamera", fn := fun _ => fun
  | [d1, d2] => { results := [.lit (.bool false)], args := [d1, d2] }
  | _ => none }
def FnExactTurnCameraWrongFalsely : Prop := fnExactTurnCameraRow.holds Try.pinned (OpenSpec.ofChange fnExactTurnCameraWrong)

/-- 'laws.FnExactTiltCamera': WHATEVER THE INPUT: true; the input reads as it did. -/
def fnExactTiltCameraSpec : ChangeSpec := { name := "fnExactTiltCamera", fn := fun _ => fun
  | [d1, d2] => { results := [.lit (.bool true)], args := [d1, d2] }
  | _ => none }
def fnExactTiltCameraRow : OpenClaim := { program := "ytkhnjcpigcghmaa", sum := "461ed8a657f7763ebea94df5a9c7fe15f83e7550e382af3b23c77ee70390c205", func := "loop.example/g01249/laws.FnExactTiltCamera", spec := "fnExactTiltCamera", inPlace := ["math.sqrt", "math.Float64frombits", "math.RoundToEven", "math.Float64bits"], apart := false }
def FnExactTiltCameraSaid : Prop := fnExactTiltCameraRow.holds Try.pinned (OpenSpec.ofChange fnExactTiltCameraSpec)

/-- ITS FALSE NEIGHBOUR: 'it returns false'. Refute it at one input. -/
def fnExactTiltCameraWrong : ChangeSpec := { name := "fnExactTiltCamera", fn := fun _ => fun
  | [d1, d2] => { results := [.lit (.bool false)], args := [d1, d2] }
  | _ => none }
def FnExactTiltCameraWrongFalsely : Prop := fnExactTiltCameraRow.holds Try.pinned (OpenSpec.ofChange fnExactTiltCameraWrong)

/-- 'laws.FnExactTwoViews': WHATEVER THE INPUT: true; the input reads as it did. -/
def fnExactTwoViewsSpec : ChangeSpec := { name := "fnExactTwoViews", fn := fun _ => fun
  | [d1, d2] => { results := [.lit (.bool true)], args := [d1, d2] }
  | _ => none }
def fnExactTwoViewsRow : OpenClaim := { program := "ytkhnjcpigcghmaa", sum := "461ed8a657f7763ebea94df5a9c7fe15f83e7550e382af3b23c77ee70390c205", func := "loop.example/g01249/laws.FnExactTwoViews", spec := "fnExactTwoViews", inPlace := ["math.sqrt", "math.Float64bits", "math.Float64frombits"], apart := false }
def FnExactTwoViewsSaid : Prop := fnExactTwoViewsRow.holds Try.pinned (OpenSpec.ofChange fnExactTwoViewsSpec)

/-- ITS FALSE NEIGHBOUR: 'it returns false'. Refute it at one input. -/
def fnExactTwoViewsWrong : ChangeSpec := { name := "fnExactTwoViews", fn := fun _ => fun
  | [d1, d2] => { results := [.lit (.bool false)], args := [d1, d2] }
  | _ => none }
def FnExactTwoViewsWrongFalsely : Prop := fnExactTwoViewsRow.holds Try.pinned (OpenSpec.ofChange fnExactTwoViewsWrong)

/- THE SECOND FORM. 'bulk': how many values and letters a reading holds, each counted each time it is reached (what is shared counts as often as it is met; a slice's spare places count too). A statement '..UptoSaid' is the law's where the arguments, and the package variables that the reading takes, are together of bulk at most 1048576: NARROWER than '..Said'. Prove '..Said' where nothing that the law and all that it calls make is longer than what came in: it says more and counts as full. Else prove '..UptoSaid'. A law counts once. -/
mutual
def uptoBulk {H : Type} : DataW H → Nat
  | .lit (.string bytes) => bytes.length + 1
  | .lit _ => 1
  | .nil => 1
  | .ptr d => uptoBulk d + 1
  | .slice elems spare => uptoBulkAll elems + uptoBulkAll spare + 1
  | .agg parts => uptoBulkAll parts + 1
  | .iface _ d => uptoBulk d + 1
  | .map entries => uptoBulkEntries entries + 1
  | .held _ => 1
def uptoBulkAll {H : Type} : List (DataW H) → Nat
  | [] => 0
  | d :: r => uptoBulk d + uptoBulkAll r
def uptoBulkEntries {H : Type} : List (Lit × DataW H) → Nat
  | [] => 0
  | x :: r => uptoBulkEntry x + uptoBulkEntries r
def uptoBulkEntry {H : Type} : Lit × DataW H → Nat
  | (.string bytes, d) => bytes.length + uptoBulk d + 1
  | (_, d) => uptoBulk d + 1
 end
def uptoSmall : (H : Type) → List (DataW H) → Bool := fun _ ds => decide (uptoBulkAll ds ≤ 1048576)
def OpenSpec.upto (s : _root_.Go.ChangeSpec) : _root_.Go.OpenSpec := { _root_.Go.OpenSpec.ofChange s with cond := some uptoSmall }

/-- 'laws.FnExactSineOf', WHERE WHAT IT READS IS OF BULK AT MOST 1048576: true; the input reads as it did. -/
def fnExactSineOfUptoRow : OpenClaim := { program := "ytkhnjcpigcghmaa", sum := "461ed8a657f7763ebea94df5a9c7fe15f83e7550e382af3b23c77ee70390c205", func := "loop.example/g01249/laws.FnExactSineOf", spec := "fnExactSineOf", inPlace := ["math.Float64frombits", "math.RoundToEven"], apart := false, narrowed := true }
def FnExactSineOfUptoSaid : Prop := fnExactSineOfUptoRow.holds Try.pinned (OpenSpec.upto fnExactSineOfSpec)

/-- 'laws.FnExactTurnAround', WHERE WHAT IT READS IS OF BULK AT MOST 1048576: true; the input reads as it did. -/
def fnExactTurnAroundUptoRow : OpenClaim := { program := "ytkhnjcpigcghmaa", sum := "461ed8a657f7763ebea94df5a9c7fe15f83e7550e382af3b23c77ee70390c205", func := "loop.example/g01249/laws.FnExactTurnAround", spec := "fnExactTurnAround", inPlace := ["math.sqrt", "math.Float64frombits", "math.RoundToEven", "math.Float64bits"], apart := false, narrowed := true }
def FnExactTurnAroundUptoSaid : Prop := fnExactTurnAroundUptoRow.holds Try.pinned (OpenSpec.upto fnExactTurnAroundSpec)

/-- 'laws.FnExactProjectPoint', WHERE WHAT IT READS IS OF BULK AT MOST 1048576: true; the input reads as it did. -/
def fnExactProjectPointUptoRow : OpenClaim := { program := "ytkhnjcpigcghmaa", sum := "461ed8a657f7763ebea94df5a9c7fe15f83e7550e382af3b23c77ee70390c205", func := "loop.example/g01249/laws.FnExactProjectPoint", spec := "fnExactProjectPoint", inPlace := ["math.sqrt", "math.Float64bits", "math.Float64frombits"], unfollowed := true, recurses := true, apart := false, narrowed := true }
def FnExactProjectPointUptoSaid : Prop := fnExactProjectPointUptoRow.holds Try.pinned (OpenSpec.upto fnExactProjectPointSpec)

/-- 'laws.FnExactRayThrough', WHERE WHAT IT READS IS OF BULK AT MOST 1048576: true; the input reads as it did. -/
def fnExactRayThroughUptoRow : OpenClaim := { program := "ytkhnjcpigcghmaa", sum := "461ed8a657f7763ebea94df5a9c7fe15f83e7550e382af3b23c77ee70390c205", func := "loop.example/g01249/laws.FnExactRayThrough", spec := "fnExactRayThrough", inPlace := ["math.sqrt", "math.Float64bits", "math.Float64frombits"], apart := false, narrowed := true }
def FnExactRayThroughUptoSaid : Prop := fnExactRayThroughUptoRow.holds Try.pinned (OpenSpec.upto fnExactRayThroughSpec)

/-- 'laws.FnExactPointAt', WHERE WHAT IT READS IS OF BULK AT MOST 1048576: true; the input reads as it did. -/
def fnExactPointAtUptoRow : OpenClaim := { program := "ytkhnjcpigcghmaa", sum := "461ed8a657f7763ebea94df5a9c7fe15f83e7550e382af3b23c77ee70390c205", func := "loop.example/g01249/laws.FnExactPointAt", spec := "fnExactPointAt", inPlace := ["math.sqrt", "math.Float64bits", "math.Float64frombits"], apart := false, narrowed := true }
def FnExactPointAtUptoSaid : Prop := fnExactPointAtUptoRow.holds Try.pinned (OpenSpec.upto fnExactPointAtSpec)

/-- 'laws.FnExactVanishingSpot', WHERE WHAT IT READS IS OF BULK AT MOST 1048576: true; the input reads as it did. -/
def fnExactVanishingSpotUptoRow : OpenClaim := { program := "ytkhnjcpigcghmaa", sum := "461ed8a657f7763ebea94df5a9c7fe15f83e7550e382af3b23c77ee70390c205", func := "loop.example/g01249/laws.FnExactVanishingSpot", spec := "fnExactVanishingSpot", inPlace := ["math.sqrt", "math.Float64bits", "math.Float64frombits"], unfollowed := true, recurses := true, apart := false, narrowed := true }
def FnExactVanishingSpotUptoSaid : Prop := fnExactVanishingSpotUptoRow.holds Try.pinned (OpenSpec.upto fnExactVanishingSpotSpec)

/-- 'laws.FnExactHorizonOf', WHERE WHAT IT READS IS OF BULK AT MOST 1048576: true; the input reads as it did. -/
def fnExactHorizonOfUptoRow : OpenClaim := { program := "ytkhnjcpigcghmaa", sum := "461ed8a657f7763ebea94df5a9c7fe15f83e7550e382af3b23c77ee70390c205", func := "loop.example/g01249/laws.FnExactHorizonOf", spec := "fnExactHorizonOf", inPlace := ["math.sqrt", "math.Float64bits", "math.Float64frombits"], apart := false, narrowed := true }
def FnExactHorizonOfUptoSaid : Prop := fnExactHorizonOfUptoRow.holds Try.pinned (OpenSpec.upto fnExactHorizonOfSpec)

/-- 'laws.FnExactSeenOnPlane', WHERE WHAT IT READS IS OF BULK AT MOST 1048576: true; the input reads as it did. -/
def fnExactSeenOnPlaneUptoRow : OpenClaim := { program := "ytkhnjcpigcghmaa", sum := "461ed8a657f7763ebea94df5a9c7fe15f83e7550e382af3b23c77ee70390c205", func := "loop.example/g01249/laws.FnExactSeenOnPlane", spec := "fnExactSeenOnPlane", inPlace := ["math.sqrt", "math.Float64bits", "math.Float64frombits"], apart := false, narrowed := true }
def FnExactSeenOnPlaneUptoSaid : Prop := fnExactSeenOnPlaneUptoRow.holds Try.pinned (OpenSpec.upto fnExactSeenOnPlaneSpec)

/-- 'laws.FnExactMoveCamera', WHERE WHAT IT READS IS OF BULK AT MOST 1048576: true; the input reads as it did. -/
def fnExactMoveCameraUptoRow : OpenClaim := { program := "ytkhnjcpigcghmaa", sum := "461ed8a657f7763ebea94df5a9c7fe15f83e7550e382af3b23c77ee70390c205", func := "loop.example/g01249/laws.FnExactMoveCamera", spec := "fnExactMoveCamera", inPlace := ["math.sqrt", "math.Float64bits", "math.Float64frombits"], apart := false, narrowed := true }
def FnExactMoveCameraUptoSaid : Prop := fnExactMoveCameraUptoRow.holds Try.pinned (OpenSpec.upto fnExactMoveCameraSpec)

/-- 'laws.FnExactTurnCamera', WHERE WHAT IT READS IS OF BULK AT MOST 1048576: true; the input reads as it did. -/
def fnExactTurnCameraUptoRow : OpenClaim := { program := "ytkhnjcpigcghmaa", sum := "461ed8a657f7763ebea94df5a9c7fe15f83e7550e382af3b23c77ee70390c205", func := "loop.example/g01249/laws.FnExactTurnCamera", spec := "fnExactTurnCamera", inPlace := ["math.sqrt", "math.Float64frombits", "math.RoundToEven", "math.Float64bits"], apart := false, narrowed := true }
def FnExactTurnCameraUptoSaid : Prop := fnExactTurnCameraUptoRow.holds Try.pinned (OpenSpec.upto fnExactTurnCameraSpec)

/-- 'laws.FnExactTiltCamera', WHERE WHAT IT READS IS OF BULK AT MOST 1048576: true; the input reads as it did. -/
def fnExactTiltCameraUptoRow : OpenClaim := { program := "ytkhnjcpigcghmaa", sum := "461ed8a657f7763ebea94df5a9c7fe15f83e7550e382af3b23c77ee70390c205", func := "loop.example/g01249/laws.FnExactTiltCamera", spec := "fnExactTiltCamera", inPlace := ["math.sqrt", "math.Float64frombits", "math.RoundToEven", "math.Float64bits"], apart := false, narrowed := true }
def FnExactTiltCameraUptoSaid : Prop := fnExactTiltCameraUptoRow.holds Try.pinned (OpenSpec.upto fnExactTiltCameraSpec)

/-- 'laws.FnExactTwoViews', WHERE WHAT IT READS IS OF BULK AT MOST 1048576: true; the input reads as it did. -/
def fnExactTwoViewsUptoRow : OpenClaim := { program := "ytkhnjcpigcghmaa", sum := "461ed8a657f7763ebea94df5a9c7fe15f83e7550e382af3b23c77ee70390c205", func := "loop.example/g01249/laws.FnExactTwoViews", spec := "fnExactTwoViews", inPlace := ["math.sqrt", "math.Float64bits", "math.Float64frombits"], apart := false, narrowed := true }
def FnExactTwoViewsUptoSaid : Prop := fnExactTwoViewsUptoRow.holds Try.pinned (OpenSpec.upto fnExactTwoViewsSpec)

end Rows
end Go.Proofs.Ytkhnjcpigcghmaa
