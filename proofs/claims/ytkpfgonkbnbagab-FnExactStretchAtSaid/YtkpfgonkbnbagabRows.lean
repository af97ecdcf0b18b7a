/-
  No cell of these rows narrows 'for every input' (looked for: loops, veiled, ifaces, maps, wideKeys, modest, calm, conditions, laid).
  DERIVED. THE GIVEN ROWS OF THIS SEAT. 10 by the template 'for every input the law returns true; each argument reads behind the call as it read before'; 0 by the template 'total and deterministic' (their statements: YtkpfgonkbnbagabTotals.lean).
  GIVEN WITH THE SEED: the statements are not yours to turn. If you find one false, say at which input.
  Laid BY PROGRAM, IN A SANDBOX (cutbox-rows.mjs): the forced cells as the released guide's own fill.sh prints them over the translation fc60b6d24ce3a1f4… (all of the seat's roots in one cut). By AI agents, Wed Nov 11 2026. No macro, syntax, notation, axiom, sorry.
-/
import Derived.Test.YtkpfgonkbnbagabChecked
import GoSem.Claim
import GoSem.ClaimJoined
import GoSem.ClaimMapViews
import Derived.JoinedTies
import Derived.KernelRfl
namespace Go.Proofs.Ytkpfgonkbnbagab
/- THE CELL 'sum', in the pinned program and in every row, IS THE sha256 OF THE DUMP (.gsa) THAT YtkpfgonkbnbagabProg.lean LOADS. Nothing in Lean hashes anything: it is a label: what it is worth is what the hold of that sum in a sandbox is worth. -/
noncomputable def Try.pinned : Pinned := { name := "ytkpfgonkbnbagab", sum := "fc60b6d24ce3a1f471d8016d3708906a889cf9c2f5558b166993b1b7788592b5", checked := Try.checked }
namespace Rows
def none {H : Type} : Left H := { results := [], args := [] }

/-- 'laws.FnExactMeetSpots': WHATEVER THE INPUT: true; the input reads as it did. -/
def fnExactMeetSpotsSpec : ChangeSpec := { name := "fnExactMeetSpots", fn := fun _ => fun
  | [d1, d2] => { results := [.lit (.bool true)], args := [d1, d2] }
  | _ => none }
def fnExactMeetSpotsRow : OpenClaim := { program := "ytkpfgonkbnbagab", sum := "fc60b6d24ce3a1f471d8016d3708906a889cf9c2f5558b166993b1b7788592b5", func := "loop.example/g01249/laws.FnExactMeetSpots", spec := "fnExactMeetSpots", inPlace := ["math.Float64bits", "math.Float64frombits"], unfollowed := true, recurses := true, plainKeys := false, apart := false }
def FnExactMeetSpotsSaid : Prop := fnExactMeetSpotsRow.holds Try.pinned (OpenSpec.ofChange fnExactMeetSpotsSpec)

/-- ITS FALSE NEIGHBOUR: 'it returns false'. Refute it at one input. -/
def fnExactMeetSpotsWrong : ChangeSpec := { name := "fnExactMeetSpots", fn := fun _ => fun
  | [d1, d2] => { results := [.lit (.bool false)], args := [d1, d2] }
  | _ => none }
def FnExactMeetSpotsWrongFalsely : Prop := fnExactMeetSpotsRow.holds Try.pinned (OpenSpec.ofChange fnExactMeetSpotsWrong)

/-- 'laws.FnExactCrossRatio': WHATEVER THE INPUT: true; the input reads as it did. -/
def fnExactCrossRatioSpec : ChangeSpec := { name := "fnExactCrossRatio", fn := fun _ => fun
  | [d1, d2, d3, d4] => { results := [.lit (.bool true)], args := [d1, d2, d3, d4] }
  | _ => none }
def fnExactCrossRatioRow : OpenClaim := { program := "ytkpfgonkbnbagab", sum := "fc60b6d24ce3a1f471d8016d3708906a889cf9c2f5558b166993b1b7788592b5", func := "loop.example/g01249/laws.FnExactCrossRatio", spec := "fnExactCrossRatio", inPlace := ["math.Float64bits", "math.Float64frombits"], unfollowed := true, recurses := true, plainKeys := false, apart := false }
def FnExactCrossRatioSaid : Prop := fnExactCrossRatioRow.holds Try.pinned (OpenSpec.ofChange fnExactCrossRatioSpec)

/-- ITS FALSE NEIGHBOUR: 'it returns false'. Refute it at one input. -/
def fnExactCrossRatioWrong : ChangeSpec := { name := "fnExactCrossRatio", fn := fun _ => fun
  | [d1, d2, d3, d4] => { results := [.lit (.bool false)], args := [d1, d2, d3, d4] }
  | _ => none }
def FnExactCrossRatioWrongFalsely : Prop := fnExactCrossRatioRow.holds Try.pinned (OpenSpec.ofChange fnExactCrossRatioWrong)

/-- 'laws.FnExactMeasureFrom': WHATEVER THE INPUT: true; the input reads as it did. -/
def fnExactMeasureFromSpec : ChangeSpec := { name := "fnExactMeasureFrom", fn := fun _ => fun
  | [d1, d2, d3, d4, d5] => { results := [.lit (.bool true)], args := [d1, d2, d3, d4, d5] }
  | _ => none }
def fnExactMeasureFromRow : OpenClaim := { program := "ytkpfgonkbnbagab", sum := "fc60b6d24ce3a1f471d8016d3708906a889cf9c2f5558b166993b1b7788592b5", func := "loop.example/g01249/laws.FnExactMeasureFrom", spec := "fnExactMeasureFrom", inPlace := ["math.Float64bits", "math.Float64frombits"], unfollowed := true, recurses := true, plainKeys := false, apart := false }
def FnExactMeasureFromSaid : Prop := fnExactMeasureFromRow.holds Try.pinned (OpenSpec.ofChange fnExactMeasureFromSpec)

/-- ITS FALSE NEIGHBOUR: 'it returns false'. Refute it at one input. -/
def fnExactMeasureFromWrong : ChangeSpec := { name := "fnExactMeasureFrom", fn := fun _ => fun
  | [d1, d2, d3, d4, d5] => { results := [.lit (.bool false)], args := [d1, d2, d3, d4, d5] }
  | _ => none }
def FnExactMeasureFromWrongFalsely : Prop := fnExactMeasureFromRow.holds Try.pinned (OpenSpec.ofChange fnExactMeasureFromWrong)

/-- 'laws.FnExactApplyMap': WHATEVER THE INPUT: true; the input reads as it did. -/
def fnExactApplyMapSpec : ChangeSpec := { name := "fnExactApplyMap", fn := fun _ => fun
  | [d1, d2] => { results := [.lit (.bool true)], args := [d1, d2] }
  | _ => none }
def fnExactApplyMapRow : OpenClaim := { program := "ytkpfgonkbnbagab", sum := "fc60b6d24ce3a1f471d8016d3708906a889cf9c2f5558b166993b1b7788592b5", func := "loop.example/g01249/laws.FnExactApplyMap", spec := "fnExactApplyMap", inPlace := ["math.Float64bits", "math.Float64frombits"], unfollowed := true, recurses := true, plainKeys := false, apart := false }
def FnExactApplyMapSaid : Prop := fnExactApplyMapRow.holds Try.pinned (OpenSpec.ofChange fnExactApplyMapSpec)

/-- ITS FALSE NEIGHBOUR: 'it returns false'. Refute it at one input. -/
def fnExactApplyMapWrong : ChangeSpec := { name := "fnExactApplyMap", fn := fun _ => fun
  | [d1, d2] => { results := [.lit (.bool false)], args := [d1, d2] }
  | _ => none }
def FnExactApplyMapWrongFalsely : Prop := fnExactApplyMapRow.holds Try.pinned (OpenSpec.ofChange fnExactApplyMapWrong)

/-- 'laws.FnExactStretchAt': WHATEVER THE INPUT: true; the input reads as it did. -/
def fnExactStretchAtSpec : ChangeSpec := { name := "fnExactStretchAt", fn := fun _ => fun
  | [d1, d2] => { results := [.lit (.bool true)], args := [d1, d2] }
  | _ => none }
def fnExactStretchAtRow : OpenClaim := { program := "ytkpfgonkbnbagab", sum := "fc60b6d24ce3a1f471d8016d3708906a889cf9c2f5558b166993b1b7788592b5", func := "loop.example/g01249/laws.FnExactStretchAt", spec := "fnExactStretchAt", inPlace := ["math.Float64bits", "math.Float64frombits"], unfollowed := true, recurses := true, plainKeys := false, apart := false }
def FnExactStretchAtSaid : Prop := fnExactStretchAtRow.holds Try.pinned (OpenSpec.ofChange fnExactStretchAtSpec)

/-- ITS FALSE NEIGHBOUR: 'it returns false'. Refute it at one input. -/
def fnExactStretchAtWrong : ChangeSpec := { name := "fnExactStretchAt", fn := fun _ => fun
  | [d1, d2] => { results := [.lit (.bool false)], args := [d1, d2] }
  | _ => none }
def FnExactStretchAtWrongFalsely : Prop := fnExactStretchAtRow.holds Try.pinned (OpenSpec.ofChange fnExactStretchAtWrong)

/-- 'laws.FnExactInvertMap': WHATEVER THE INPUT: true; the input reads as it did. -/
def fnExactInvertMapSpec : ChangeSpec := { name := "fnExactInvertMap", fn := fun _ => fun
  | [d] => { results := [.lit (.bool true)], args := [d] }
  | _ => none }
def fnExactInvertMapRow : OpenClaim := { program := "ytkpfgonkbnbagab", sum := "fc60b6d24ce3a1f471d8016d3708906a889cf9c2f5558b166993b1b7788592b5", func := "loop.example/g01249/laws.FnExactInvertMap", spec := "fnExactInvertMap", inPlace := ["math.Float64bits", "math.Float64frombits", "math.Float32bits"], unfollowed := true, recurses := true, plainKeys := false, apart := false }
def FnExactInvertMapSaid : Prop := fnExactInvertMapRow.holds Try.pinned (OpenSpec.ofChange fnExactInvertMapSpec)

/-- ITS FALSE NEIGHBOUR: 'it returns false'. Refute it at one input. -/
def fnExactInvertMapWrong : ChangeSpec := { name := "fnExactInvertMap", fn := fun _ => fun
  | [d] => { results := [.lit (.bool false)], args := [d] }
  | _ => none }
def FnExactInvertMapWrongFalsely : Prop := fnExactInvertMapRow.holds Try.pinned (OpenSpec.ofChange fnExactInvertMapWrong)

/-- 'laws.FnExactMapFromFour': WHATEVER THE INPUT: true; the input reads as it did. -/
def fnExactMapFromFourSpec : ChangeSpec := { name := "fnExactMapFromFour", fn := fun _ => fun
  | [d1, d2] => { results := [.lit (.bool true)], args := [d1, d2] }
  | _ => none }
def fnExactMapFromFourRow : OpenClaim := { program := "ytkpfgonkbnbagab", sum := "fc60b6d24ce3a1f471d8016d3708906a889cf9c2f5558b166993b1b7788592b5", func := "loop.example/g01249/laws.FnExactMapFromFour", spec := "fnExactMapFromFour", inPlace := ["math.Float64bits", "math.Float64frombits"], unfollowed := true, recurses := true, plainKeys := false, apart := false }
def FnExactMapFromFourSaid : Prop := fnExactMapFromFourRow.holds Try.pinned (OpenSpec.ofChange fnExactMapFromFourSpec)

/-- ITS FALSE NEIGHBOUR: 'it returns false'. Refute it at one input. -/
def fnExactMapFromFourWrong : ChangeSpec := { name := "fnExactMapFromFour", fn := fun _ => fun
  | [d1, d2] => { results := [.lit (.bool false)], args := [d1, d2] }
  | _ => none }
def FnExactMapFromFourWrongFalsely : Prop := fnExactMapFromFourRow.holds Try.pinned (OpenSpec.ofChange fnExactMapFromFourWrong)

/-- 'laws.FnExactGridOf': WHATEVER THE INPUT: true; the input reads as it did. -/
def fnExactGridOfSpec : ChangeSpec := { name := "fnExactGridOf", fn := fun _ => fun
  | [d1, d2] => { results := [.lit (.bool true)], args := [d1, d2] }
  | _ => none }
def fnExactGridOfRow : OpenClaim := { program := "ytkpfgonkbnbagab", sum := "fc60b6d24ce3a1f471d8016d3708906a889cf9c2f5558b166993b1b7788592b5", func := "loop.example/g01249/laws.FnExactGridOf", spec := "fnExactGridOf", inPlace := ["math.Float64bits", "math.Float64frombits"], unfollowed := true, recurses := true, plainKeys := false, apart := false }
def FnExactGridOfSaid : Prop := fnExactGridOfRow.holds Try.pinned (OpenSpec.ofChange fnExactGridOfSpec)

/-- ITS FALSE NEIGHBOUR: 'it returns false'. Refute it at one input. -/
def fnExactGridOfWrong : ChangeSpec := { name := "fnExactGridOf", fn := fun _ => fun
  | [d1, d2] => { results := [.lit (.bool false)], args := [d1, d2] }
  | _ => none }
def FnExactGridOfWrongFalsely : Prop := fnExactGridOfRow.holds Try.pinned (OpenSpec.ofChange fnExactGridOfWrong)

/-- 'laws.FnExactWorstOff': WHATEVER THE INPUT: true; the input reads as it did. -/
def fnExactWorstOffSpec : ChangeSpec := { name := "fnExactWorstOff", fn := fun _ => fun
  | [d1, d2, d3] => { results := [.lit (.bool true)], args := [d1, d2, d3] }
  | _ => none }
def fnExactWorstOffRow : OpenClaim := { program := "ytkpfgonkbnbagab", sum := "fc60b6d24ce3a1f471d8016d3708906a889cf9c2f5558b166993b1b7788592b5", func := "loop.example/g01249/laws.FnExactWorstOff", spec := "fnExactWorstOff", inPlace := ["math.sqrt", "math.Float64bits", "math.Float64frombits"], unfollowed := true, recurses := true, plainKeys := false, apart := false }
def FnExactWorstOffSaid : Prop := fnExactWorstOffRow.holds Try.pinned (OpenSpec.ofChange fnExactWorstOffSpec)

/-- ITS FALSE NEIGHBOUR: 'it returns false'. Refute it at one input. -/
def fnExactWorstOffWrong : ChangeSpec := { name := "fnExactWorstOff", fn := fun _ => fun
  | [d1, d2, d3] => { results := [.lit (.bool false)], args := [d1, d2, d3] }
  | _ => none }
def FnExactWorstOffWrongFalsely : Prop := fnExactWorstOffRow.holds Try.pinned (OpenSpec.ofChange fnExactWorstOffWrong)

/-- 'laws.FnExactApplyMany': WHATEVER THE INPUT: true; the input reads as it did. -/
def fnExactApplyManySpec : ChangeSpec := { name := "fnExactApplyMany", fn := fun _ => fun
  | [d1, d2] => { results := [.lit (.bool true)], args := [d1, d2] }
  | _ => none }
def fnExactApplyManyRow : OpenClaim := { program := "ytkpfgonkbnbagab", sum := "fc60b6d24ce3a1f471d8016d3708906a889cf9c2f5558b166993b1b7788592b5", func := "loop.example/g01249/laws.FnExactApplyMany", spec := "fnExactApplyMany", inPlace := ["math.Float64bits", "math.Float64frombits"], unfollowed := true, recurses := true, plainKeys := false, apart := false }
def FnExactApplyManySaid : Prop := fnExactApplyManyRow.holds Try.pinned (OpenSpec.ofChange fnExactApplyManySpec)

/-- ITS FALSE NEIGHBOUR: 'it returns false'. Refute it at one input. -/
def fnExactApplyManyWrong : ChangeSpec := { name := "fnExactApplyMany", fn := fun _ => fun
  | [d1, d2] => { results := [.lit (.bool false)], args := [d1, d2] }
  | _ => none }
def FnExactApplyManyWrongFalsely : Prop := fnExactApplyManyRow.holds Try.pinned (OpenSpec.ofChange fnExactApplyManyWrong)

/- THE SECOND FORM. 'bulk': how many values and letters a reading holds, each counted each time it is reached (what is shared counts as often as it is met; a slice's spare places count too). A statement '..UptoSaid' is the law's where the arguments, and the package variables that the reading takes, are together of bulk at most 1048576: NARROWER than '..Said'. Prove '..Said' where nothing that the law and all that it calls make is longer than what came in: it says more and counts as full. Else prove '..UptoSaid'. A law counts once. -/
mutual
def uptoBulk {H : Type} : DataW H → Nat
  | .lit (.string bytes) => bytes.length + 1
  | .lit _ => 1
  | .nil => 1
  | .ptr d => uptoBulk d + 1
  | .slice elems spare => uptoBulkAll elems + uptoBulkAll spare + 1
  | .agg parts => uptoBulkAll parts + 1
  | .iface _ d => uptoBulk d + 1
  | .map entries => uptoBulkEntries entries + 1
  | .held _ => 1
def uptoBulkAll {H : Type} : List (DataW H) → Nat
  | [] => 0
  | d :: r => uptoBulk d + uptoBulkAll r
def uptoBulkEntries {H : Type} : List (Lit × DataW H) → Nat
  | [] => 0
  | x :: r => uptoBulkEntry x + uptoBulkEntries r
def uptoBulkEntry {H : Type} : Lit × DataW H → Nat
  | (.string bytes, d) => bytes.length + uptoBulk d + 1
  | (_, d) => uptoBulk d + 1
 end
def uptoSmall : (H : Type) → List (DataW H) → Bool := fun _ ds => decide (uptoBulkAll ds ≤ 1048576)
def OpenSpec.upto (s : _root_.Go.ChangeSpec) : _root_.Go.OpenSpec := { _root_.Go.OpenSpec.ofChange s with cond := some uptoSmall }

/-- 'laws.FnExactMeetSpots', WHERE WHAT IT READS IS OF BULK AT MOST 1048576: true; the input reads as it did. -/
def fnExactMeetSpotsUptoRow : OpenClaim := { program := "ytkpfgonkbnbagab", sum := "fc60b6d24ce3a1f471d8016d3708906a889cf9c2f5558b166993b1b7788592b5", func := "loop.example/g01249/laws.FnExactMeetSpots", spec := "fnExactMeetSpots", inPlace := ["math.Float64bits", "math.Float64frombits"], unfollowed := true, recurses := true, plainKeys := false, apart := false, narrowed := true }
def FnExactMeetSpotsUptoSaid : Prop := fnExactMeetSpotsUptoRow.holds Try.pinned (OpenSpec.upto fnExactMeetSpotsSpec)

/-- 'laws.FnExactCrossRatio', WHERE WHAT IT READS IS OF BULK AT MOST 1048576: true; the input reads as it did. -/
def fnExactCrossRatioUptoRow : OpenClaim := { program := "ytkpfgonkbnbagab", sum := "fc60b6d24ce3a1f471d8016d3708906a889cf9c2f5558b166993b1b7788592b5", func := "loop.example/g01249/laws.FnExactCrossRatio", spec := "fnExactCrossRatio", inPlace := ["math.Float64bits", "math.Float64frombits"], unfollowed := true, recurses := true, plainKeys := false, apart := false, narrowed := true }
def FnExactCrossRatioUptoSaid : Prop := fnExactCrossRatioUptoRow.holds Try.pinned (OpenSpec.upto fnExactCrossRatioSpec)

/-- 'laws.FnExactMeasureFrom', WHERE WHAT IT READS IS OF BULK AT MOST 1048576: true; the input reads as it did. -/
def fnExactMeasureFromUptoRow : OpenClaim := { program := "ytkpfgonkbnbagab", sum := "fc60b6d24ce3a1f471d8016d3708906a889cf9c2f5558b166993b1b7788592b5", func := "loop.example/g01249/laws.FnExactMeasureFrom", spec := "fnExactMeasureFrom", inPlace := ["math.Float64bits", "math.Float64frombits"], unfollowed := true, recurses := true, plainKeys := false, apart := false, narrowed := true }
def FnExactMeasureFromUptoSaid : Prop := fnExactMeasureFromUptoRow.holds Try.pinned (OpenSpec.upto fnExactMeasureFromSpec)

/-- 'laws.FnExactApplyMap', WHERE WHAT IT READS IS OF BULK AT MOST 1048576: true; the input reads as it did. -/
def fnExactApplyMapUptoRow : OpenClaim := { program := "ytkpfgonkbnbagab", sum := "fc60b6d24ce3a1f471d8016d3708906a889cf9c2f5558b166993b1b7788592b5", func := "loop.example/g01249/laws.FnExactApplyMap", spec := "fnExactApplyMap", inPlace := ["math.Float64bits", "math.Float64frombits"], unfollowed := true, recurses := true, plainKeys := false, apart := false, narrowed := true }
def FnExactApplyMapUptoSaid : Prop := fnExactApplyMapUptoRow.holds Try.pinned (OpenSpec.upto fnExactApplyMapSpec)

/-- 'laws.FnExactStretchAt', WHERE WHAT IT READS IS OF BULK AT MOST 1048576: true; the input reads as it did. -/
def fnExactStretchAtUptoRow : OpenClaim := { program := "ytkpfgonkbnbagab", sum := "fc60b6d24ce3a1f471d8016d3708906a889cf9c2f5558b166993b1b7788592b5", func := "loop.example/g01249/laws.FnExactStretchAt", spec := "fnExactStretchAt", inPlace := ["math.Float64bits", "math.Float64frombits"], unfollowed := true, recurses := true, plainKeys := false, apart := false, narrowed := true }
def FnExactStretchAtUptoSaid : Prop := fnExactStretchAtUptoRow.holds Try.pinned (OpenSpec.upto fnExactStretchAtSpec)

/-- 'laws.FnExactInvertMap', WHERE WHAT IT READS IS OF BULK AT MOST 1048576: true; the input reads as it did. -/
def fnExactInvertMapUptoRow : OpenClaim := { program := "ytkpfgonkbnbagab", sum := "fc60b6d24ce3a1f471d8016d3708906a889cf9c2f5558b166993b1b7788592b5", func := "loop.example/g01249/laws.FnExactInvertMap", spec := "fnExactInvertMap", inPlace := ["math.Float64bits", "math.Float64frombits", "math.Float32bits"], unfollowed := true, recurses := true, plainKeys := false, apart := false, narrowed := true }
def FnExactInvertMapUptoSaid : Prop := fnExactInvertMapUptoRow.holds Try.pinned (OpenSpec.upto fnExactInvertMapSpec)

/-- 'laws.FnExactMapFromFour', WHERE WHAT IT READS IS OF BULK AT MOST 1048576: true; the input reads as it did. -/
def fnExactMapFromFourUptoRow : OpenClaim := { program := "ytkpfgonkbnbagab", sum := "fc60b6d24ce3a1f471d8016d3708906a889cf9c2f5558b166993b1b7788592b5", func := "loop.example/g01249/laws.FnExactMapFromFour", spec := "fnExactMapFromFour", inPlace := ["math.Float64bits", "math.Float64frombits"], unfollowed := true, recurses := true, plainKeys := false, apart := false, narrowed := true }
def FnExactMapFromFourUptoSaid : Prop := fnExactMapFromFourUptoRow.holds Try.pinned (OpenSpec.upto fnExactMapFromFourSpec)

/-- 'laws.FnExactGridOf', WHERE WHAT IT READS IS OF BULK AT MOST 1048576: true; the input reads as it did. -/
def fnExactGridOfUptoRow : OpenClaim := { program := "ytkpfgonkbnbagab", sum := "fc60b6d24ce3a1f471d8016d3708906a889cf9c2f5558b166993b1b7788592b5", func := "loop.example/g01249/laws.FnExactGridOf", spec := "fnExactGridOf", inPlace := ["math.Float64bits", "math.Float64frombits"], unfollowed := true, recurses := true, plainKeys := false, apart := false, narrowed := true }
def FnExactGridOfUptoSaid : Prop := fnExactGridOfUptoRow.holds Try.pinned (OpenSpec.upto fnExactGridOfSpec)

/-- 'laws.FnExactWorstOff', WHERE WHAT IT READS IS OF BULK AT MOST 1048576: true; the input reads as it did. -/
def fnExactWorstOffUptoRow : OpenClaim := { program := "ytkpfgonkbnbagab", sum := "fc60b6d24ce3a1f471d8016d3708906a889cf9c2f5558b166993b1b7788592b5", func := "loop.example/g01249/laws.FnExactWorstOff", spec := "fnExactWorstOff", inPlace := ["math.sqrt", "math.Float64bits", "math.Float64frombits"], unfollowed := true, recurses := true, plainKeys := false, apart := false, narrowed := true }
def FnExactWorstOffUptoSaid : Prop := fnExactWorstOffUptoRow.holds Try.pinned (OpenSpec.upto fnExactWorstOffSpec)

/-- 'laws.FnExactApplyMany', WHERE WHAT IT READS IS OF BULK AT MOST 1048576: true; the input reads as it did. -/
def fnExactApplyManyUptoRow : OpenClaim := { program := "ytkpfgonkbnbagab", sum := "fc60b6d24ce3a1f471d8016d3708906a889cf9c2f5558b166993b1b7788592b5", func := "loop.example/g01249/laws.FnExactApplyMany", spec := "fnExactApplyMany", inPlace := ["math.Float64bits", "math.Float64frombits"], unfollowed := true, recurses := true, plainKeys := false, apart := false, narrowed := true }
def FnExactApplyManyUptoSaid : Prop := fnExactApplyManyUptoRow.holds Try.pinned (OpenSpec.upto fnExactApplyManySpec)

end Rows
end Go.Proofs.Ytkpfgonkbnbagab
