/-
  No cell of these rows narrows 'for every input' (looked for: loops, veiled, ifaces, maps, wideKeys, modest, calm, conditions, laid).
  DERIVED. THE GIVEN ROWS OF THIS SEAT. 10 by the template 'for every input the law returns true; each argument reads behind the call as it read before'; 0 by the template 'total and deterministic' (their statements: YtkpfgonkbnbagaaTotals.lean).
  GIVEN WITH THE SEED: the statements are not yours to turn. If you find one false, say at which input.
  Laid BY PROGRAM, IN A SANDBOX (cutbox-rows.mjs): the forced cells as the released guide's own fill.sh prints them over the translation 81afb1cc35412d96… (all of the seat's roots in one cut). By AI agents, Wed Nov 11 2026. No macro, syntax, notation, axiom, sorry.
-/
import Derived.Test.YtkpfgonkbnbagaaChecked
import GoSem.Claim
import GoSem.ClaimJoined
import GoSem.ClaimMapViews
import Derived.JoinedTies
import Derived.KernelRfl
namespace Go.Proofs.Ytkpfgonkbnbagaa
/- THE CELL 'sum', in the pinned program and in every row, IS THE sha256 OF THE DUMP (.gsa) THAT YtkpfgonkbnbagaaProg.lean LOADS. Nothing in Lean hashes anything: it is a label: what it is worth is what the hold of that sum in a sandbox is worth. -/
noncomputable def Try.pinned : Pinned := { name := "ytkpfgonkbnbagaa", sum := "81afb1cc35412d9624282fda963c66d2c47d23bfdc226d51b595b91c6642a223", checked := Try.checked }
namespace Rows
def none {H : Type} : Left H := { results := [], args := [] }

/-- 'laws.FnExactDetOf': WHATEVER THE INPUT: true; the input reads as it did. -/
def fnExactDetOfSpec : ChangeSpec := { name := "fnExactDetOf", fn := fun _ => fun
  | [d] => { results := [.lit (.bool true)], args := [d] }
  | _ => none }
def fnExactDetOfRow : OpenClaim := { program := "ytkpfgonkbnbagaa", sum := "81afb1cc35412d9624282fda963c66d2c47d23bfdc226d51b595b91c6642a223", func := "loop.example/g01249/laws.FnExactDetOf", spec := "fnExactDetOf", unfollowed := true, recurses := true, apart := false }
def FnExactDetOfSaid : Prop := fnExactDetOfRow.holds Try.pinned (OpenSpec.ofChange fnExactDetOfSpec)

/-- ITS FALSE NEIGHBOUR: 'it returns false'. Refute it at one input. -/
def fnExactDetOfWrong : ChangeSpec := { name := "fnExactDetOf", fn := fun _ => fun
  | [d] => { results := [.lit (.bool false)], args := [d] }
  | _ => none }
def FnExactDetOfWrongFalsely : Prop := fnExactDetOfRow.holds Try.pinned (OpenSpec.ofChange fnExactDetOfWrong)

/-- 'laws.FnExactTurnsLeft': WHATEVER THE INPUT: true; the input reads as it did. -/
def fnExactTurnsLeftSpec : ChangeSpec := { name := "fnExactTurnsLeft", fn := fun _ => fun
  | [d1, d2, d3] => { results := [.lit (.bool true)], args := [d1, d2, d3] }
  | _ => none }
def fnExactTurnsLeftRow : OpenClaim := { program := "ytkpfgonkbnbagaa", sum := "81afb1cc35412d9624282fda963c66d2c47d23bfdc226d51b595b91c6642a223", func := "loop.example/g01249/laws.FnExactTurnsLeft", spec := "fnExactTurnsLeft", apart := false }
def FnExactTurnsLeftSaid : Prop := fnExactTurnsLeftRow.holds Try.pinned (OpenSpec.ofChange fnExactTurnsLeftSpec)

/-- ITS FALSE NEIGHBOUR: 'it returns false'. Refute it at one input. -/
def fnExactTurnsLeftWrong : ChangeSpec := { name := "fnExactTurnsLeft", fn := fun _ => fun
  | [d1, d2, d3] => { results := [.lit (.bool false)], args := [d1, d2, d3] }
  | _ => none }
def FnExactTurnsLeftWrongFalsely : Prop := fnExactTurnsLeftRow.holds Try.pinned (OpenSpec.ofChange fnExactTurnsLeftWrong)

/-- 'laws.FnExactAreaOfFour': WHATEVER THE INPUT: true; the input reads as it did. -/
def fnExactAreaOfFourSpec : ChangeSpec := { name := "fnExactAreaOfFour", fn := fun _ => fun
  | [d] => { results := [.lit (.bool true)], args := [d] }
  | _ => none }
def fnExactAreaOfFourRow : OpenClaim := { program := "ytkpfgonkbnbagaa", sum := "81afb1cc35412d9624282fda963c66d2c47d23bfdc226d51b595b91c6642a223", func := "loop.example/g01249/laws.FnExactAreaOfFour", spec := "fnExactAreaOfFour", apart := false }
def FnExactAreaOfFourSaid : Prop := fnExactAreaOfFourRow.holds Try.pinned (OpenSpec.ofChange fnExactAreaOfFourSpec)

/-- ITS FALSE NEIGHBOUR: 'it returns false'. Refute it at one input. -/
def fnExactAreaOfFourWrong : ChangeSpec := { name := "fnExactAreaOfFour", fn := fun _ => fun
  | [d] => { results := [.lit (.bool false)], args := [d] }
  | _ => none }
def FnExactAreaOfFourWrongFalsely : Prop := fnExactAreaOfFourRow.holds Try.pinned (OpenSpec.ofChange fnExactAreaOfFourWrong)

/-- 'laws.FnExactIsConvexFour': WHATEVER THE INPUT: true; the input reads as it did. -/
def fnExactIsConvexFourSpec : ChangeSpec := { name := "fnExactIsConvexFour", fn := fun _ => fun
  | [d] => { results := [.lit (.bool true)], args := [d] }
  | _ => none }
def fnExactIsConvexFourRow : OpenClaim := { program := "ytkpfgonkbnbagaa", sum := "81afb1cc35412d9624282fda963c66d2c47d23bfdc226d51b595b91c6642a223", func := "loop.example/g01249/laws.FnExactIsConvexFour", spec := "fnExactIsConvexFour", inPlace := ["math.Float64bits", "math.Float64frombits"], apart := false }
def FnExactIsConvexFourSaid : Prop := fnExactIsConvexFourRow.holds Try.pinned (OpenSpec.ofChange fnExactIsConvexFourSpec)

/-- ITS FALSE NEIGHBOUR: 'it returns false'. Refute it at one input. -/
def fnExactIsConvexFourWrong : ChangeSpec := { name := "fnExactIsConvexFour", fn := fun _ => fun
  | [d] => { results := [.lit (.bool false)], args := [d] }
  | _ => none }
def FnExactIsConvexFourWrongFalsely : Prop := fnExactIsConvexFourRow.holds Try.pinned (OpenSpec.ofChange fnExactIsConvexFourWrong)

/-- 'laws.FnExactLineThrough': WHATEVER THE INPUT: true; the input reads as it did. -/
def fnExactLineThroughSpec : ChangeSpec := { name := "fnExactLineThrough", fn := fun _ => fun
  | [d1, d2] => { results := [.lit (.bool true)], args := [d1, d2] }
  | _ => none }
def fnExactLineThroughRow : OpenClaim := { program := "ytkpfgonkbnbagaa", sum := "81afb1cc35412d9624282fda963c66d2c47d23bfdc226d51b595b91c6642a223", func := "loop.example/g01249/laws.FnExactLineThrough", spec := "fnExactLineThrough", inPlace := ["math.Float64bits", "math.Float64frombits"], unfollowed := true, recurses := true, apart := false }
def FnExactLineThroughSaid : Prop := fnExactLineThroughRow.holds Try.pinned (OpenSpec.ofChange fnExactLineThroughSpec)

/-- ITS FALSE NEIGHBOUR: 'it returns false'. Refute it at one input. -/
def fnExactLineThroughWrong : ChangeSpec := { name := "fnExactLineThrough", fn := fun _ => fun
  | [d1, d2] => { results := [.lit (.bool false)], args := [d1, d2] }
  | _ => none }
def FnExactLineThroughWrongFalsely : Prop := fnExactLineThroughRow.holds Try.pinned (OpenSpec.ofChange fnExactLineThroughWrong)

/-- 'laws.FnExactValidMap': WHATEVER THE INPUT: true; the input reads as it did. -/
def fnExactValidMapSpec : ChangeSpec := { name := "fnExactValidMap", fn := fun _ => fun
  | [d] => { results := [.lit (.bool true)], args := [d] }
  | _ => none }
def fnExactValidMapRow : OpenClaim := { program := "ytkpfgonkbnbagaa", sum := "81afb1cc35412d9624282fda963c66d2c47d23bfdc226d51b595b91c6642a223", func := "loop.example/g01249/laws.FnExactValidMap", spec := "fnExactValidMap", inPlace := ["math.Float64bits", "math.Float64frombits"], unfollowed := true, recurses := true, apart := false }
def FnExactValidMapSaid : Prop := fnExactValidMapRow.holds Try.pinned (OpenSpec.ofChange fnExactValidMapSpec)

/-- ITS FALSE NEIGHBOUR: 'it returns false'. Refute it at one input. -/
def fnExactValidMapWrong : ChangeSpec := { name := "fnExactValidMap", fn := fun _ => fun
  | [d] => { results := [.lit (.bool false)], args := [d] }
  | _ => none }
def FnExactValidMapWrongFalsely : Prop := fnExactValidMapRow.holds Try.pinned (OpenSpec.ofChange fnExactValidMapWrong)

/-- 'laws.FnExactSameMap': WHATEVER THE INPUT: true; the input reads as it did. -/
def fnExactSameMapSpec : ChangeSpec := { name := "fnExactSameMap", fn := fun _ => fun
  | [d1, d2] => { results := [.lit (.bool true)], args := [d1, d2] }
  | _ => none }
def fnExactSameMapRow : OpenClaim := { program := "ytkpfgonkbnbagaa", sum := "81afb1cc35412d9624282fda963c66d2c47d23bfdc226d51b595b91c6642a223", func := "loop.example/g01249/laws.FnExactSameMap", spec := "fnExactSameMap", inPlace := ["math.Float32bits"], apart := false }
def FnExactSameMapSaid : Prop := fnExactSameMapRow.holds Try.pinned (OpenSpec.ofChange fnExactSameMapSpec)

/-- ITS FALSE NEIGHBOUR: 'it returns false'. Refute it at one input. -/
def fnExactSameMapWrong : ChangeSpec := { name := "fnExactSameMap", fn := fun _ => fun
  | [d1, d2] => { results := [.lit (.bool false)], args := [d1, d2] }
  | _ => none }
def FnExactSameMapWrongFalsely : Prop := fnExactSameMapRow.holds Try.pinned (OpenSpec.ofChange fnExactSameMapWrong)

/-- 'laws.FnExactScaledMap': WHATEVER THE INPUT: true; the input reads as it did. -/
def fnExactScaledMapSpec : ChangeSpec := { name := "fnExactScaledMap", fn := fun _ => fun
  | [d] => { results := [.lit (.bool true)], args := [d] }
  | _ => none }
def fnExactScaledMapRow : OpenClaim := { program := "ytkpfgonkbnbagaa", sum := "81afb1cc35412d9624282fda963c66d2c47d23bfdc226d51b595b91c6642a223", func := "loop.example/g01249/laws.FnExactScaledMap", spec := "fnExactScaledMap", inPlace := ["math.Float64bits", "math.Float64frombits"], unfollowed := true, recurses := true, apart := false }
def FnExactScaledMapSaid : Prop := fnExactScaledMapRow.holds Try.pinned (OpenSpec.ofChange fnExactScaledMapSpec)

/-- ITS FALSE NEIGHBOUR: 'it returns false'. Refute it at one input. -/
def fnExactScaledMapWrong : ChangeSpec := { name := "fnExactScaledMap", fn := fun _ => fun
  | [d] => { results := [.lit (.bool false)], args := [d] }
  | _ => none }
def FnExactScaledMapWrongFalsely : Prop := fnExactScaledMapRow.holds Try.pinned (OpenSpec.ofChange fnExactScaledMapWrong)

/-- 'laws.FnExactComposeMaps': WHATEVER THE INPUT: true; the input reads as it did. -/
def fnExactComposeMapsSpec : ChangeSpec := { name := "fnExactComposeMaps", fn := fun _ => fun
  | [d1, d2] => { results := [.lit (.bool true)], args := [d1, d2] }
  | _ => none }
def fnExactComposeMapsRow : OpenClaim := { program := "ytkpfgonkbnbagaa", sum := "81afb1cc35412d9624282fda963c66d2c47d23bfdc226d51b595b91c6642a223", func := "loop.example/g01249/laws.FnExactComposeMaps", spec := "fnExactComposeMaps", inPlace := ["math.Float64bits", "math.Float64frombits"], unfollowed := true, recurses := true, apart := false }
def FnExactComposeMapsSaid : Prop := fnExactComposeMapsRow.holds Try.pinned (OpenSpec.ofChange fnExactComposeMapsSpec)

/-- ITS FALSE NEIGHBOUR: 'it returns false'. Refute it at one input. -/
def fnExactComposeMapsWrong : ChangeSpec := { name := "fnExactComposeMaps", fn := fun _ => fun
  | [d1, d2] => { results := [.lit (.bool false)], args := [d1, d2] }
  | _ => none }
def FnExactComposeMapsWrongFalsely : Prop := fnExactComposeMapsRow.holds Try.pinned (OpenSpec.ofChange fnExactComposeMapsWrong)

/-- 'laws.FnExactMapOfPlane': WHATEVER THE INPUT: true; the input reads as it did. -/
def fnExactMapOfPlaneSpec : ChangeSpec := { name := "fnExactMapOfPlane", fn := fun _ => fun
  | [d1, d2, d3, d4] => { results := [.lit (.bool true)], args := [d1, d2, d3, d4] }
  | _ => none }
def fnExactMapOfPlaneRow : OpenClaim := { program := "ytkpfgonkbnbagaa", sum := "81afb1cc35412d9624282fda963c66d2c47d23bfdc226d51b595b91c6642a223", func := "loop.example/g01249/laws.FnExactMapOfPlane", spec := "fnExactMapOfPlane", inPlace := ["math.sqrt", "math.Float64bits", "math.Float64frombits"], unfollowed := true, recurses := true, apart := false }
def FnExactMapOfPlaneSaid : Prop := fnExactMapOfPlaneRow.holds Try.pinned (OpenSpec.ofChange fnExactMapOfPlaneSpec)

/-- ITS FALSE NEIGHBOUR: 'it returns false'. Refute it at one input. -/
def fnExactMapOfPlaneWrong : ChangeSpec := { name := "fnExactMapOfPlane", fn := fun _ => fun
  | [d1, d2, d3, d4] => { results := [.lit (.bool false)], args := [d1, d2, d3, d4] }
  | _ => none }
def FnExactMapOfPlaneWrongFalsely : Prop := fnExactMapOfPlaneRow.holds Try.pinned (OpenSpec.ofChange fnExactMapOfPlaneWrong)

/- THE SECOND FORM. 'bulk': how many values and letters a reading holds, each counted each time it is reached (what is shared counts as often as it is met; a slice's spare places count too). A statement '..UptoSaid' is the law's where the arguments, and the package variables that the reading takes, are together of bulk at most 1048576: NARROWER than '..Said'. Prove '..Said' where nothing that the law and all that it calls make is longer than what came in: it says more and counts as full. Else prove '..UptoSaid'. A law counts once. -/
mutual
def uptoBulk {H : Type} : DataW H → Nat
  | .lit (.string bytes) => bytes.length + 1
  | .lit _ => 1
  | .nil => 1
  | .ptr d => uptoBulk d + 1
  | .slice elems spare => uptoBulkAll elems + uptoBulkAll spare + 1
  | .agg parts => uptoBulkAll parts + 1
  | .iface _ d => uptoBulk d + 1
  | .map entries => uptoBulkEntries entries + 1
  | .held _ => 1
def uptoBulkAll {H : Type} : List (DataW H) → Nat
  | [] => 0
  | d :: r => uptoBulk d + uptoBulkAll r
def uptoBulkEntries {H : Type} : List (Lit × DataW H) → Nat
  | [] => 0
  | x :: r => uptoBulkEntry x + uptoBulkEntries r
def uptoBulkEntry {H : Type} : Lit × DataW H → Nat
  | (.string bytes, d) => bytes.length + uptoBulk d + 1
  | (_, d) => uptoBulk d + 1
 end
def uptoSmall : (H : Type) → List (DataW H) → Bool := fun _ ds => decide (uptoBulkAll ds ≤ 1048576)
def OpenSpec.upto (s : _root_.Go.ChangeSpec) : _root_.Go.OpenSpec := { _root_.Go.OpenSpec.ofChange s with cond := some uptoSmall }

/-- 'laws.FnExactDetOf', WHERE WHAT IT READS IS OF BULK AT MOST 1048576: true; the input reads as it did. -/
def fnExactDetOfUptoRow : OpenClaim := { program := "ytkpfgonkbnbagaa", sum := "81afb1cc35412d9624282fda963c66d2c47d23bfdc226d51b595b91c6642a223", func := "loop.example/g01249/laws.FnExactDetOf", spec := "fnExactDetOf", unfollowed := true, recurses := true, apart := false, narrowed := true }
def FnExactDetOfUptoSaid : Prop := fnExactDetOfUptoRow.holds Try.pinned (OpenSpec.upto fnExactDetOfSpec)

/-- 'laws.FnExactTurnsLeft', WHERE WHAT IT READS IS OF BULK AT MOST 1048576: true; the input reads as it did. -/
def fnExactTurnsLeftUptoRow : OpenClaim := { program := "ytkpfgonkbnbagaa", sum := "81afb1cc35412d9624282fda963c66d2c47d23bfdc226d51b595b91c6642a223", func := "loop.example/g01249/laws.FnExactTurnsLeft", spec := "fnExactTurnsLeft", apart := false, narrowed := true }
def FnExactTurnsLeftUptoSaid : Prop := fnExactTurnsLeftUptoRow.holds Try.pinned (OpenSpec.upto fnExactTurnsLeftSpec)

/-- 'laws.FnExactAreaOfFour', WHERE WHAT IT READS IS OF BULK AT MOST 1048576: true; the input reads as it did. -/
def fnExactAreaOfFourUptoRow : OpenClaim := { program := "ytkpfgonkbnbagaa", sum := "81afb1cc35412d9624282fda963c66d2c47d23bfdc226d51b595b91c6642a223", func := "loop.example/g01249/laws.FnExactAreaOfFour", spec := "fnExactAreaOfFour", apart := false, narrowed := true }
def FnExactAreaOfFourUptoSaid : Prop := fnExactAreaOfFourUptoRow.holds Try.pinned (OpenSpec.upto fnExactAreaOfFourSpec)

/-- 'laws.FnExactIsConvexFour', WHERE WHAT IT READS IS OF BULK AT MOST 1048576: true; the input reads as it did. -/
def fnExactIsConvexFourUptoRow : OpenClaim := { program := "ytkpfgonkbnbagaa", sum := "81afb1cc35412d9624282fda963c66d2c47d23bfdc226d51b595b91c6642a223", func := "loop.example/g01249/laws.FnExactIsConvexFour", spec := "fnExactIsConvexFour", inPlace := ["math.Float64bits", "math.Float64frombits"], apart := false, narrowed := true }
def FnExactIsConvexFourUptoSaid : Prop := fnExactIsConvexFourUptoRow.holds Try.pinned (OpenSpec.upto fnExactIsConvexFourSpec)

/-- 'laws.FnExactLineThrough', WHERE WHAT IT READS IS OF BULK AT MOST 1048576: true; the input reads as it did. -/
def fnExactLineThroughUptoRow : OpenClaim := { program := "ytkpfgonkbnbagaa", sum := "81afb1cc35412d9624282fda963c66d2c47d23bfdc226d51b595b91c6642a223", func := "loop.example/g01249/laws.FnExactLineThrough", spec := "fnExactLineThrough", inPlace := ["math.Float64bits", "math.Float64frombits"], unfollowed := true, recurses := true, apart := false, narrowed := true }
def FnExactLineThroughUptoSaid : Prop := fnExactLineThroughUptoRow.holds Try.pinned (OpenSpec.upto fnExactLineThroughSpec)

/-- 'laws.FnExactValidMap', WHERE WHAT IT READS IS OF BULK AT MOST 1048576: true; the input reads as it did. -/
def fnExactValidMapUptoRow : OpenClaim := { program := "ytkpfgonkbnbagaa", sum := "81afb1cc35412d9624282fda963c66d2c47d23bfdc226d51b595b91c6642a223", func := "loop.example/g01249/laws.FnExactValidMap", spec := "fnExactValidMap", inPlace := ["math.Float64bits", "math.Float64frombits"], unfollowed := true, recurses := true, apart := false, narrowed := true }
def FnExactValidMapUptoSaid : Prop := fnExactValidMapUptoRow.holds Try.pinned (OpenSpec.upto fnExactValidMapSpec)

/-- 'laws.FnExactSameMap', WHERE WHAT IT READS IS OF BULK AT MOST 1048576: true; the input reads as it did. -/
def fnExactSameMapUptoRow : OpenClaim := { program := "ytkpfgonkbnbagaa", sum := "81afb1cc35412d9624282fda963c66d2c47d23bfdc226d51b595b91c6642a223", func := "loop.example/g01249/laws.FnExactSameMap", spec := "fnExactSameMap", inPlace := ["math.Float32bits"], apart := false, narrowed := true }
def FnExactSameMapUptoSaid : Prop := fnExactSameMapUptoRow.holds Try.pinned (OpenSpec.upto fnExactSameMapSpec)

/-- 'laws.FnExactScaledMap', WHERE WHAT IT READS IS OF BULK AT MOST 1048576: true; the input reads as it did. -/
def fnExactScaledMapUptoRow : OpenClaim := { program := "ytkpfgonkbnbagaa", sum := "81afb1cc35412d9624282fda963c66d2c47d23bfdc226d51b595b91c6642a223", func := "loop.example/g01249/laws.FnExactScaledMap", spec := "fnExactScaledMap", inPlace := ["math.Float64bits", "math.Float64frombits"], unfollowed := true, recurses := true, apart := false, narrowed := true }
def FnExactScaledMapUptoSaid : Prop := fnExactScaledMapUptoRow.holds Try.pinned (OpenSpec.upto fnExactScaledMapSpec)

/-- 'laws.FnExactComposeMaps', WHERE WHAT IT READS IS OF BULK AT MOST 1048576: true; the input reads as it did. -/
def fnExactComposeMapsUptoRow : OpenClaim := { program := "ytkpfgonkbnbagaa", sum := "81afb1cc35412d9624282fda963c66d2c47d23bfdc226d51b595b91c6642a223", func := "loop.example/g01249/laws.FnExactComposeMaps", spec := "fnExactComposeMaps", inPlace := ["math.Float64bits", "math.Float64frombits"], unfollowed := true, recurses := true, apart := false, narrowed := true }
def FnExactComposeMapsUptoSaid : Prop := fnExactComposeMapsUptoRow.holds Try.pinned (OpenSpec.upto fnExactComposeMapsSpec)

/-- 'laws.FnExactMapOfPlane', WHERE WHAT IT READS IS OF BULK AT MOST 1048576: true; the input reads as it did. -/
def fnExactMapOfPlaneUptoRow : OpenClaim := { program := "ytkpfgonkbnbagaa", sum := "81afb1cc35412d9624282fda963c66d2c47d23bfdc226d51b595b91c6642a223", func := "loop.example/g01249/laws.FnExactMapOfPlane", spec := "fnExactMapOfPlane", inPlace := ["math.sqrt", "math.Float64bits", "math.Float64frombits"], unfollowed := true, recurses := true, apart := false, narrowed := true }
def FnExactMapOfPlaneUptoSaid : Prop := fnExactMapOfPlaneUptoRow.holds Try.pinned (OpenSpec.upto fnExactMapOfPlaneSpec)

end Rows
end Go.Proofs.Ytkpfgonkbnbagaa
