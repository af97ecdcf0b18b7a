/-
  No cell of these rows narrows 'for every input' (looked for: loops, veiled, ifaces, maps, wideKeys, modest, calm, conditions, laid).
  DERIVED. THE GIVEN ROWS OF THIS SEAT. 8 by the template 'for every input the law returns true; each argument reads behind the call as it read before'; 0 by the template 'total and deterministic' (their statements: YtbkcoiojcjmmlaaTotals.lean).
  GIVEN WITH THE SEED: the statements are not yours to turn. If you find one false, say at which input.
  Laid BY PROGRAM, IN A SANDBOX (cutbox-rows.mjs): the forced cells as the released guide's own fill.sh prints them over the translation 52a64bd7f9d4957e… (all of the seat's roots in one cut). By AI agents, Wed Nov 11 2026. No macro, syntax, notation, axiom, sorry.
-/
import Derived.Test.YtbkcoiojcjmmlaaChecked
import GoSem.Claim
import GoSem.ClaimJoined
import GoSem.ClaimMapViews
import Derived.JoinedTies
import Derived.KernelRfl
namespace Go.Proofs.Ytbkcoiojcjmmlaa
/- THE CELL 'sum', in the pinned program and in every row, IS THE sha256 OF THE DUMP (.gsa) THAT YtbkcoiojcjmmlaaProg.lean LOADS. Nothing in Lean hashes anything: it is a label: what it is worth is what the hold of that sum in a sandbox is worth. -/
noncomputable def Try.pinned : Pinned := { name := "ytbkcoiojcjmmlaa", sum := "52a64bd7f9d4957ef99504c56bdaa970d90cf63de97c829f3a8b8fc4105052d3", checked := Try.checked }
namespace Rows
def none {H : Type} : Left H := { results := [], args := [] }

/-- 'laws.FnExactValidStroke': WHATEVER THE INPUT: true; the input reads as it did. -/
def fnExactValidStrokeSpec : ChangeSpec := { name := "fnExactValidStroke", fn := fun _ => fun
  | [d] => { results := [.lit (.bool true)], args := [d] }
  | _ => none }
def fnExactValidStrokeRow : OpenClaim := { program := "ytbkcoiojcjmmlaa", sum := "52a64bd7f9d4957ef99504c56bdaa970d90cf63de97c829f3a8b8fc4105052d3", func := "loop.example/g01249/laws.FnExactValidStroke", spec := "fnExactValidStroke", unfollowed := true, recurses := true, apart := false }
def FnExactValidStrokeSaid : Prop := fnExactValidStrokeRow.holds Try.pinned (OpenSpec.ofChange fnExactValidStrokeSpec)

/-- ITS FALSE NEIGHBOUR: 'it returns false'. Refute it at one input. -/
def fnExactValidStrokeWrong : ChangeSpec := { name := "fnExactValidStroke", fn := fun _ => fun
  | [d] => { results := [.lit (.bool false)], args := [d] }
  | _ => none }
def FnExactValidStrokeWrongFalsely : Prop := fnExactValidStrokeRow.holds Try.pinned (OpenSpec.ofChange fnExactValidStrokeWrong)

/-- 'laws.FnExactMarksOf': WHATEVER THE INPUT: true; the input reads as it did. -/
def fnExactMarksOfSpec : ChangeSpec := { name := "fnExactMarksOf", fn := fun _ => fun
  | [d] => { results := [.lit (.bool true)], args := [d] }
  | _ => none }
def fnExactMarksOfRow : OpenClaim := { program := "ytbkcoiojcjmmlaa", sum := "52a64bd7f9d4957ef99504c56bdaa970d90cf63de97c829f3a8b8fc4105052d3", func := "loop.example/g01249/laws.FnExactMarksOf", spec := "fnExactMarksOf", unfollowed := true, recurses := true, apart := false }
def FnExactMarksOfSaid : Prop := fnExactMarksOfRow.holds Try.pinned (OpenSpec.ofChange fnExactMarksOfSpec)

/-- ITS FALSE NEIGHBOUR: 'it returns false'. Refute it at one input. -/
def fnExactMarksOfWrong : ChangeSpec := { name := "fnExactMarksOf", fn := fun _ => fun
  | [d] => { results := [.lit (.bool false)], args := [d] }
  | _ => none }
def FnExactMarksOfWrongFalsely : Prop := fnExactMarksOfRow.holds Try.pinned (OpenSpec.ofChange fnExactMarksOfWrong)

/-- 'laws.FnExactIsDrawn': WHATEVER THE INPUT: true; the input reads as it did. -/
def fnExactIsDrawnSpec : ChangeSpec := { name := "fnExactIsDrawn", fn := fun _ => fun
  | [d1, d2] => { results := [.lit (.bool true)], args := [d1, d2] }
  | _ => none }
def fnExactIsDrawnRow : OpenClaim := { program := "ytbkcoiojcjmmlaa", sum := "52a64bd7f9d4957ef99504c56bdaa970d90cf63de97c829f3a8b8fc4105052d3", func := "loop.example/g01249/laws.FnExactIsDrawn", spec := "fnExactIsDrawn", unfollowed := true, recurses := true, apart := false }
def FnExactIsDrawnSaid : Prop := fnExactIsDrawnRow.holds Try.pinned (OpenSpec.ofChange fnExactIsDrawnSpec)

/-- ITS FALSE NEIGHBOUR: 'it returns false'. Refute it at one input. -/
def fnExactIsDrawnWrong : ChangeSpec := { name := "fnExactIsDrawn", fn := fun _ => fun
  | [d1, d2] => { results := [.lit (.bool false)], args := [d1, d2] }
  | _ => none }
def FnExactIsDrawnWrongFalsely : Prop := fnExactIsDrawnRow.holds Try.pinned (OpenSpec.ofChange fnExactIsDrawnWrong)

/-- 'laws.FnExactClipStroke': WHATEVER THE INPUT: true; the input reads as it did. -/
def fnExactClipStrokeSpec : ChangeSpec := { name := "fnExactClipStroke", fn := fun _ => fun
  | [d1, d2, d3] => { results := [.lit (.bool true)], args := [d1, d2, d3] }
  | _ => none }
def fnExactClipStrokeRow : OpenClaim := { program := "ytbkcoiojcjmmlaa", sum := "52a64bd7f9d4957ef99504c56bdaa970d90cf63de97c829f3a8b8fc4105052d3", func := "loop.example/g01249/laws.FnExactClipStroke", spec := "fnExactClipStroke", unfollowed := true, recurses := true, apart := false }
def FnExactClipStrokeSaid : Prop := fnExactClipStrokeRow.holds Try.pinned (OpenSpec.ofChange fnExactClipStrokeSpec)

/-- ITS FALSE NEIGHBOUR: 'it returns false'. Refute it at one input. -/
def fnExactClipStrokeWrong : ChangeSpec := { name := "fnExactClipStroke", fn := fun _ => fun
  | [d1, d2, d3] => { results := [.lit (.bool false)], args := [d1, d2, d3] }
  | _ => none }
def FnExactClipStrokeWrongFalsely : Prop := fnExactClipStrokeRow.holds Try.pinned (OpenSpec.ofChange fnExactClipStrokeWrong)

/-- 'laws.FnExactHasInk': WHATEVER THE INPUT: true; the input reads as it did. -/
def fnExactHasInkSpec : ChangeSpec := { name := "fnExactHasInk", fn := fun _ => fun
  | [d1, d2] => { results := [.lit (.bool true)], args := [d1, d2] }
  | _ => none }
def fnExactHasInkRow : OpenClaim := { program := "ytbkcoiojcjmmlaa", sum := "52a64bd7f9d4957ef99504c56bdaa970d90cf63de97c829f3a8b8fc4105052d3", func := "loop.example/g01249/laws.FnExactHasInk", spec := "fnExactHasInk", apart := false }
def FnExactHasInkSaid : Prop := fnExactHasInkRow.holds Try.pinned (OpenSpec.ofChange fnExactHasInkSpec)

/-- ITS FALSE NEIGHBOUR: 'it returns false'. Refute it at one input. -/
def fnExactHasInkWrong : ChangeSpec := { name := "fnExactHasInk", fn := fun _ => fun
  | [d1, d2] => { results := [.lit (.bool false)], args := [d1, d2] }
  | _ => none }
def FnExactHasInkWrongFalsely : Prop := fnExactHasInkRow.holds Try.pinned (OpenSpec.ofChange fnExactHasInkWrong)

/-- 'laws.FnExactCountInk': WHATEVER THE INPUT: true; the input reads as it did. -/
def fnExactCountInkSpec : ChangeSpec := { name := "fnExactCountInk", fn := fun _ => fun
  | [d] => { results := [.lit (.bool true)], args := [d] }
  | _ => none }
def fnExactCountInkRow : OpenClaim := { program := "ytbkcoiojcjmmlaa", sum := "52a64bd7f9d4957ef99504c56bdaa970d90cf63de97c829f3a8b8fc4105052d3", func := "loop.example/g01249/laws.FnExactCountInk", spec := "fnExactCountInk", apart := false }
def FnExactCountInkSaid : Prop := fnExactCountInkRow.holds Try.pinned (OpenSpec.ofChange fnExactCountInkSpec)

/-- ITS FALSE NEIGHBOUR: 'it returns false'. Refute it at one input. -/
def fnExactCountInkWrong : ChangeSpec := { name := "fnExactCountInk", fn := fun _ => fun
  | [d] => { results := [.lit (.bool false)], args := [d] }
  | _ => none }
def FnExactCountInkWrongFalsely : Prop := fnExactCountInkRow.holds Try.pinned (OpenSpec.ofChange fnExactCountInkWrong)

/-- 'laws.FnExactDistanceOf': WHATEVER THE INPUT: true; the input reads as it did. -/
def fnExactDistanceOfSpec : ChangeSpec := { name := "fnExactDistanceOf", fn := fun _ => fun
  | [d1, d2] => { results := [.lit (.bool true)], args := [d1, d2] }
  | _ => none }
def fnExactDistanceOfRow : OpenClaim := { program := "ytbkcoiojcjmmlaa", sum := "52a64bd7f9d4957ef99504c56bdaa970d90cf63de97c829f3a8b8fc4105052d3", func := "loop.example/g01249/laws.FnExactDistanceOf", spec := "fnExactDistanceOf", apart := false }
def FnExactDistanceOfSaid : Prop := fnExactDistanceOfRow.holds Try.pinned (OpenSpec.ofChange fnExactDistanceOfSpec)

/-- ITS FALSE NEIGHBOUR: 'it returns false'. Refute it at one input. -/
def fnExactDistanceOfWrong : ChangeSpec := { name := "fnExactDistanceOf", fn := fun _ => fun
  | [d1, d2] => { results := [.lit (.bool false)], args := [d1, d2] }
  | _ => none }
def FnExactDistanceOfWrongFalsely : Prop := fnExactDistanceOfRow.holds Try.pinned (OpenSpec.ofChange fnExactDistanceOfWrong)

/-- 'laws.FnExactMarkOf': WHATEVER THE INPUT: true; the input reads as it did. -/
def fnExactMarkOfSpec : ChangeSpec := { name := "fnExactMarkOf", fn := fun _ => fun
  | [d1, d2] => { results := [.lit (.bool true)], args := [d1, d2] }
  | _ => none }
def fnExactMarkOfRow : OpenClaim := { program := "ytbkcoiojcjmmlaa", sum := "52a64bd7f9d4957ef99504c56bdaa970d90cf63de97c829f3a8b8fc4105052d3", func := "loop.example/g01249/laws.FnExactMarkOf", spec := "fnExactMarkOf", inPlace := ["math.archFloor", "math.Float64bits", "math.Float64frombits", "math.archTrunc"], apart := false }
def FnExactMarkOfSaid : Prop := fnExactMarkOfRow.holds Try.pinned (OpenSpec.ofChange fnExactMarkOfSpec)

/-- ITS FALSE NEIGHBOUR: 'it returns false'. Refute it at one input. -/
def fnExactMarkOfWrong : ChangeSpec := { name := "fnExactMarkOf", fn := fun _ => fun
  | [d1, d2] => { results := [.lit (.bool false)], args := [d1, d2] }
  | _ => none }
def FnExactMarkOfWrongFalsely : Prop := fnExactMarkOfRow.holds Try.pinned (OpenSpec.ofChange fnExactMarkOfWrong)

/- THE SECOND FORM. 'bulk': how many values and letters a reading holds, each counted each time it is reached (what is shared counts as often as it is met; a slice's spare places count too). A statement '..UptoSaid' is the law's where the arguments, and the package variables that the reading takes, are together of bulk at most 1048576: NARROWER than '..Said'. Prove '..Said' where nothing that the law and all that it calls make is longer than what came in: it says more and counts as full. Else prove '..UptoSaid'. A law counts once. -/
mutual
def uptoBulk {H : Type} : DataW H → Nat
  | .lit (.string bytes) => bytes.length + 1
  | .lit _ => 1
  | .nil => 1
  | .ptr d => uptoBulk d + 1
  | .slice elems spare => uptoBulkAll elems + uptoBulkAll spare + 1
  | .agg parts => uptoBulkAll parts + 1
  | .iface _ d => uptoBulk d + 1
  | .map entries => uptoBulkEntries entries + 1
  | .held _ => 1
def uptoBulkAll {H : Type} : List (DataW H) → Nat
  | [] => 0
  | d :: r => uptoBulk d + uptoBulkAll r
def uptoBulkEntries {H : Type} : List (Lit × DataW H) → Nat
  | [] => 0
  | x :: r => uptoBulkEntry x + uptoBulkEntries r
def uptoBulkEntry {H : Type} : Lit × DataW H → Nat
  | (.string bytes, d) => bytes.length + uptoBulk d + 1
  | (_, d) => uptoBulk d + 1
 end
def uptoSmall : (H : Type) → List (DataW H) → Bool := fun _ ds => decide (uptoBulkAll ds ≤ 1048576)
def OpenSpec.upto (s : _root_.Go.ChangeSpec) : _root_.Go.OpenSpec := { _root_.Go.OpenSpec.ofChange s with cond := some uptoSmall }

/-- 'laws.FnExactValidStroke', WHERE WHAT IT READS IS OF BULK AT MOST 1048576: true; the input reads as it did. -/
def fnExactValidStrokeUptoRow : OpenClaim := { program := "ytbkcoiojcjmmlaa", sum := "52a64bd7f9d4957ef99504c56bdaa970d90cf63de97c829f3a8b8fc4105052d3", func := "loop.example/g01249/laws.FnExactValidStroke", spec := "fnExactValidStroke", unfollowed := true, recurses := true, apart := false, narrowed := true }
def FnExactValidStrokeUptoSaid : Prop := fnExactValidStrokeUptoRow.holds Try.pinned (OpenSpec.upto fnExactValidStrokeSpec)

/-- 'laws.FnExactMarksOf', WHERE WHAT IT READS IS OF BULK AT MOST 1048576: true; the input reads as it did. -/
def fnExactMarksOfUptoRow : OpenClaim := { program := "ytbkcoiojcjmmlaa", sum := "52a64bd7f9d4957ef99504c56bdaa970d90cf63de97c829f3a8b8fc4105052d3", func := "loop.example/g01249/laws.FnExactMarksOf", spec := "fnExactMarksOf", unfollowed := true, recurses := true, apart := false, narrowed := true }
def FnExactMarksOfUptoSaid : Prop := fnExactMarksOfUptoRow.holds Try.pinned (OpenSpec.upto fnExactMarksOfSpec)

/-- 'laws.FnExactIsDrawn', WHERE WHAT IT READS IS OF BULK AT MOST 1048576: true; the input reads as it did. -/
def fnExactIsDrawnUptoRow : OpenClaim := { program := "ytbkcoiojcjmmlaa", sum := "52a64bd7f9d4957ef99504c56bdaa970d90cf63de97c829f3a8b8fc4105052d3", func := "loop.example/g01249/laws.FnExactIsDrawn", spec := "fnExactIsDrawn", unfollowed := true, recurses := true, apart := false, narrowed := true }
def FnExactIsDrawnUptoSaid : Prop := fnExactIsDrawnUptoRow.holds Try.pinned (OpenSpec.upto fnExactIsDrawnSpec)

/-- 'laws.FnExactClipStroke', WHERE WHAT IT READS IS OF BULK AT MOST 1048576: true; the input reads as it did. -/
def fnExactClipStrokeUptoRow : OpenClaim := { program := "ytbkcoiojcjmmlaa", sum := "52a64bd7f9d4957ef99504c56bdaa970d90cf63de97c829f3a8b8fc4105052d3", func := "loop.example/g01249/laws.FnExactClipStroke", spec := "fnExactClipStroke", unfollowed := true, recurses := true, apart := false, narrowed := true }
def FnExactClipStrokeUptoSaid : Prop := fnExactClipStrokeUptoRow.holds Try.pinned (OpenSpec.upto fnExactClipStrokeSpec)

/-- 'laws.FnExactHasInk', WHERE WHAT IT READS IS OF BULK AT MOST 1048576: true; the input reads as it did. -/
def fnExactHasInkUptoRow : OpenClaim := { program := "ytbkcoiojcjmmlaa", sum := "52a64bd7f9d4957ef99504c56bdaa970d90cf63de97c829f3a8b8fc4105052d3", func := "loop.example/g01249/laws.FnExactHasInk", spec := "fnExactHasInk", apart := false, narrowed := true }
def FnExactHasInkUptoSaid : Prop := fnExactHasInkUptoRow.holds Try.pinned (OpenSpec.upto fnExactHasInkSpec)

/-- 'laws.FnExactCountInk', WHERE WHAT IT READS IS OF BULK AT MOST 1048576: true; the input reads as it did. -/
def fnExactCountInkUptoRow : OpenClaim := { program := "ytbkcoiojcjmmlaa", sum := "52a64bd7f9d4957ef99504c56bdaa970d90cf63de97c829f3a8b8fc4105052d3", func := "loop.example/g01249/laws.FnExactCountInk", spec := "fnExactCountInk", apart := false, narrowed := true }
def FnExactCountInkUptoSaid : Prop := fnExactCountInkUptoRow.holds Try.pinned (OpenSpec.upto fnExactCountInkSpec)

/-- 'laws.FnExactDistanceOf', WHERE WHAT IT READS IS OF BULK AT MOST 1048576: true; the input reads as it did. -/
def fnExactDistanceOfUptoRow : OpenClaim := { program := "ytbkcoiojcjmmlaa", sum := "52a64bd7f9d4957ef99504c56bdaa970d90cf63de97c829f3a8b8fc4105052d3", func := "loop.example/g01249/laws.FnExactDistanceOf", spec := "fnExactDistanceOf", apart := false, narrowed := true }
def FnExactDistanceOfUptoSaid : Prop := fnExactDistanceOfUptoRow.holds Try.pinned (OpenSpec.upto fnExactDistanceOfSpec)

/-- 'laws.FnExactMarkOf', WHERE WHAT IT READS IS OF BULK AT MOST 1048576: true; the input reads as it did. -/
def fnExactMarkOfUptoRow : OpenClaim := { program := "ytbkcoiojcjmmlaa", sum := "52a64bd7f9d4957ef99504c56bdaa970d90cf63de97c829f3a8b8fc4105052d3", func := "loop.example/g01249/laws.FnExactMarkOf", spec := "fnExactMarkOf", inPlace := ["math.archFloor", "math.Float64bits", "math.Float64frombits", "math.archTrunc"], apart := false, narrowed := true }
def FnExactMarkOfUptoSaid : Prop := fnExactMarkOfUptoRow.holds Try.pinned (OpenSpec.upto fnExactMarkOfSpec)

end Rows
end Go.Proofs.Ytbkcoiojcjmmlaa
