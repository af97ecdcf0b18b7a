/-
  No cell of these rows narrows 'for every input' (looked for: loops, veiled, ifaces, maps, wideKeys, modest, calm, conditions, laid).
  DERIVED. THE GIVEN ROWS OF THIS SEAT. 10 by the template 'for every input the law returns true; each argument reads behind the call as it read before'; 0 by the template 'total and deterministic' (their statements: YtpaangcbcknhlaaTotals.lean).
  GIVEN WITH THE SEED: the statements are not yours to turn. If you find one false, say at which input.
  Laid BY PROGRAM, IN A SANDBOX (cutbox-rows.mjs): the forced cells as the released guide's own fill.sh prints them over the translation 2e64ae3515436844… (all of the seat's roots in one cut). By AI agents, Wed Nov 11 2026. No macro, syntax, notation, axiom, sorry.
-/
import Derived.Test.YtpaangcbcknhlaaChecked
import GoSem.Claim
import GoSem.ClaimJoined
import GoSem.ClaimMapViews
import Derived.JoinedTies
import Derived.KernelRfl
namespace Go.Proofs.Ytpaangcbcknhlaa
/- THE CELL 'sum', in the pinned program and in every row, IS THE sha256 OF THE DUMP (.gsa) THAT YtpaangcbcknhlaaProg.lean LOADS. Nothing in Lean hashes anything: it is a label: what it is worth is what the hold of that sum in a sandbox is worth. -/
noncomputable def Try.pinned : Pinned := { name := "ytpaangcbcknhlaa", sum := "2e64ae351543684417d91e9693a566690ed6253b9276b61a81afed00f655fab9", checked := Try.checked }
namespace Rows
def none {H : Type} : Left H := { results := [], args := [] }

/-- 'laws.FnExactSameClaim': WHATEVER THE INPUT: true; the input reads as it did. -/
def fnExactSameClaimSpec : ChangeSpec := { name := "fnExactSameClaim", fn := fun _ => fun
  | [d1, d2] => { results := [.lit (.bool true)], args := [d1, d2] }
  | _ => none }
def fnExactSameClaimRow : OpenClaim := { program := "ytpaangcbcknhlaa", sum := "2e64ae351543684417d91e9693a566690ed6253b9276b61a81afed00f655fab9", func := "loop.example/g01249/laws.FnExactSameClaim", spec := "fnExactSameClaim", inPlace := ["math.Float32bits"], apart := false }
def FnExactSameClaimSaid : Prop := fnExactSameClaimRow.holds Try.pinned (OpenSpec.ofChange fnExactSameClaimSpec)

/-- ITS FALSE NEIGHBOUR: 'it returns false'. Refute it at one input. -/
def fnExactSameClaimWrong : ChangeSpec := { name := "fnExactSameClaim", fn := fun _ => fun
  | [d1, d2] => { results := [.lit (.bool false)], args := [d1, d2] }
  | _ => none }
def FnExactSameClaimWrongFalsely : Prop := fnExactSameClaimRow.holds Try.pinned (OpenSpec.ofChange fnExactSameClaimWrong)

/-- 'laws.FnExactSameSolid': WHATEVER THE INPUT: true; the input reads as it did. -/
def fnExactSameSolidSpec : ChangeSpec := { name := "fnExactSameSolid", fn := fun _ => fun
  | [d1, d2] => { results := [.lit (.bool true)], args := [d1, d2] }
  | _ => none }
def fnExactSameSolidRow : OpenClaim := { program := "ytpaangcbcknhlaa", sum := "2e64ae351543684417d91e9693a566690ed6253b9276b61a81afed00f655fab9", func := "loop.example/g01249/laws.FnExactSameSolid", spec := "fnExactSameSolid", inPlace := ["math.Float32bits"], unfollowed := true, recurses := true, apart := false }
def FnExactSameSolidSaid : Prop := fnExactSameSolidRow.holds Try.pinned (OpenSpec.ofChange fnExactSameSolidSpec)

/-- ITS FALSE NEIGHBOUR: 'it returns false'. Refute it at one input. -/
def fnExactSameSolidWrong : ChangeSpec := { name := "fnExactSameSolid", fn := fun _ => fun
  | [d1, d2] => { results := [.lit (.bool false)], args := [d1, d2] }
  | _ => none }
def FnExactSameSolidWrongFalsely : Prop := fnExactSameSolidRow.holds Try.pinned (OpenSpec.ofChange fnExactSameSolidWrong)

/-- 'laws.FnExactSameScene': WHATEVER THE INPUT: true; the input reads as it did. -/
def fnExactSameSceneSpec : ChangeSpec := { name := "fnExactSameScene", fn := fun _ => fun
  | [d1, d2] => { results := [.lit (.bool true)], args := [d1, d2] }
  | _ => none }
def fnExactSameSceneRow : OpenClaim := { program := "ytpaangcbcknhlaa", sum := "2e64ae351543684417d91e9693a566690ed6253b9276b61a81afed00f655fab9", func := "loop.example/g01249/laws.FnExactSameScene", spec := "fnExactSameScene", inPlace := ["math.Float32bits"], unfollowed := true, recurses := true, apart := false }
def FnExactSameSceneSaid : Prop := fnExactSameSceneRow.holds Try.pinned (OpenSpec.ofChange fnExactSameSceneSpec)

/-- ITS FALSE NEIGHBOUR: 'it returns false'. Refute it at one input. -/
def fnExactSameSceneWrong : ChangeSpec := { name := "fnExactSameScene", fn := fun _ => fun
  | [d1, d2] => { results := [.lit (.bool false)], args := [d1, d2] }
  | _ => none }
def FnExactSameSceneWrongFalsely : Prop := fnExactSameSceneRow.holds Try.pinned (OpenSpec.ofChange fnExactSameSceneWrong)

/-- 'laws.FnExactMarkOf': WHATEVER THE INPUT: true; the input reads as it did. -/
def fnExactMarkOfSpec : ChangeSpec := { name := "fnExactMarkOf", fn := fun _ => fun
  | [d1, d2] => { results := [.lit (.bool true)], args := [d1, d2] }
  | _ => none }
def fnExactMarkOfRow : OpenClaim := { program := "ytpaangcbcknhlaa", sum := "2e64ae351543684417d91e9693a566690ed6253b9276b61a81afed00f655fab9", func := "loop.example/g01249/laws.FnExactMarkOf", spec := "fnExactMarkOf", inPlace := ["math.archFloor", "math.Float64bits", "math.Float64frombits", "math.archTrunc"], apart := false }
def FnExactMarkOfSaid : Prop := fnExactMarkOfRow.holds Try.pinned (OpenSpec.ofChange fnExactMarkOfSpec)

/-- ITS FALSE NEIGHBOUR: 'it returns false'. Refute it at one input. -/
def fnExactMarkOfWrong : ChangeSpec := { name := "fnExactMarkOf", fn := fun _ => fun
  | [d1, d2] => { results := [.lit (.bool false)], args := [d1, d2] }
  | _ => none }
def FnExactMarkOfWrongFalsely : Prop := fnExactMarkOfRow.holds Try.pinned (OpenSpec.ofChange fnExactMarkOfWrong)

/-- 'laws.FnExactHasInk': WHATEVER THE INPUT: true; the input reads as it did. -/
def fnExactHasInkSpec : ChangeSpec := { name := "fnExactHasInk", fn := fun _ => fun
  | [d1, d2] => { results := [.lit (.bool true)], args := [d1, d2] }
  | _ => none }
def fnExactHasInkRow : OpenClaim := { program := "ytpaangcbcknhlaa", sum := "2e64ae351543684417d91e9693a566690ed6253b9276b61a81afed00f655fab9", func := "loop.example/g01249/laws.FnExactHasInk", spec := "fnExactHasInk", apart := false }
def FnExactHasInkSaid : Prop := fnExactHasInkRow.holds Try.pinned (OpenSpec.ofChange fnExactHasInkSpec)

/-- ITS FALSE NEIGHBOUR: 'it returns false'. Refute it at one input. -/
def fnExactHasInkWrong : ChangeSpec := { name := "fnExactHasInk", fn := fun _ => fun
  | [d1, d2] => { results := [.lit (.bool false)], args := [d1, d2] }
  | _ => none }
def FnExactHasInkWrongFalsely : Prop := fnExactHasInkRow.holds Try.pinned (OpenSpec.ofChange fnExactHasInkWrong)

/-- 'laws.FnExactCountInk': WHATEVER THE INPUT: true; the input reads as it did. -/
def fnExactCountInkSpec : ChangeSpec := { name := "fnExactCountInk", fn := fun _ => fun
  | [d] => { results := [.lit (.bool true)], args := [d] }
  | _ => none }
def fnExactCountInkRow : OpenClaim := { program := "ytpaangcbcknhlaa", sum := "2e64ae351543684417d91e9693a566690ed6253b9276b61a81afed00f655fab9", func := "loop.example/g01249/laws.FnExactCountInk", spec := "fnExactCountInk", apart := false }
def FnExactCountInkSaid : Prop := fnExactCountInkRow.holds Try.pinned (OpenSpec.ofChange fnExactCountInkSpec)

/-- ITS FALSE NEIGHBOUR: 'it returns false'. Refute it at one input. -/
def fnExactCountInkWrong : ChangeSpec := { name := "fnExactCountInk", fn := fun _ => fun
  | [d] => { results := [.lit (.bool false)], args := [d] }
  | _ => none }
def FnExactCountInkWrongFalsely : Prop := fnExactCountInkRow.holds Try.pinned (OpenSpec.ofChange fnExactCountInkWrong)

/-- 'laws.FnExactDrawStroke': WHATEVER THE INPUT: true; the input reads as it did. -/
def fnExactDrawStrokeSpec : ChangeSpec := { name := "fnExactDrawStroke", fn := fun _ => fun
  | [d1, d2] => { results := [.lit (.bool true)], args := [d1, d2] }
  | _ => none }
def fnExactDrawStrokeRow : OpenClaim := { program := "ytpaangcbcknhlaa", sum := "2e64ae351543684417d91e9693a566690ed6253b9276b61a81afed00f655fab9", func := "loop.example/g01249/laws.FnExactDrawStroke", spec := "fnExactDrawStroke", unfollowed := true, recurses := true, apart := false }
def FnExactDrawStrokeSaid : Prop := fnExactDrawStrokeRow.holds Try.pinned (OpenSpec.ofChange fnExactDrawStrokeSpec)

/-- ITS FALSE NEIGHBOUR: 'it returns false'. Refute it at one input. -/
def fnExactDrawStrokeWrong : ChangeSpec := { name := "fnExactDrawStroke", fn := fun _ => fun
  | [d1, d2] => { results := [.lit (.bool false)], args := [d1, d2] }
  | _ => none }
def FnExactDrawStrokeWrongFalsely : Prop := fnExactDrawStrokeRow.holds Try.pinned (OpenSpec.ofChange fnExactDrawStrokeWrong)

/-- 'laws.FnExactSheetText': WHATEVER THE INPUT: true; the input reads as it did. -/
def fnExactSheetTextSpec : ChangeSpec := { name := "fnExactSheetText", fn := fun _ => fun
  | [d] => { results := [.lit (.bool true)], args := [d] }
  | _ => none }
def fnExactSheetTextRow : OpenClaim := { program := "ytpaangcbcknhlaa", sum := "2e64ae351543684417d91e9693a566690ed6253b9276b61a81afed00f655fab9", func := "loop.example/g01249/laws.FnExactSheetText", spec := "fnExactSheetText", inPlace := ["internal/abi.NoEscape"], apart := false }
def FnExactSheetTextSaid : Prop := fnExactSheetTextRow.holds Try.pinned (OpenSpec.ofChange fnExactSheetTextSpec)

/-- ITS FALSE NEIGHBOUR: 'it returns false'. Refute it at one input. -/
def fnExactSheetTextWrong : ChangeSpec := { name := "fnExactSheetText", fn := fun _ => fun
  | [d] => { results := [.lit (.bool false)], args := [d] }
  | _ => none }
def FnExactSheetTextWrongFalsely : Prop := fnExactSheetTextRow.holds Try.pinned (OpenSpec.ofChange fnExactSheetTextWrong)

/-- 'laws.FnExactWayOf': WHATEVER THE INPUT: true; the input reads as it did. -/
def fnExactWayOfSpec : ChangeSpec := { name := "fnExactWayOf", fn := fun _ => fun
  | [d1, d2, d3, d4] => { results := [.lit (.bool true)], args := [d1, d2, d3, d4] }
  | _ => none }
def fnExactWayOfRow : OpenClaim := { program := "ytpaangcbcknhlaa", sum := "2e64ae351543684417d91e9693a566690ed6253b9276b61a81afed00f655fab9", func := "loop.example/g01249/laws.FnExactWayOf", spec := "fnExactWayOf", unfollowed := true, recurses := true, apart := false }
def FnExactWayOfSaid : Prop := fnExactWayOfRow.holds Try.pinned (OpenSpec.ofChange fnExactWayOfSpec)

/-- ITS FALSE NEIGHBOUR: 'it returns false'. Refute it at one input. -/
def fnExactWayOfWrong : ChangeSpec := { name := "fnExactWayOf", fn := fun _ => fun
  | [d1, d2, d3, d4] => { results := [.lit (.bool false)], args := [d1, d2, d3, d4] }
  | _ => none }
def FnExactWayOfWrongFalsely : Prop := fnExactWayOfRow.holds Try.pinned (OpenSpec.ofChange fnExactWayOfWrong)

/-- 'laws.FnExactHatchLoop': WHATEVER THE INPUT: true; the input reads as it did. -/
def fnExactHatchLoopSpec : ChangeSpec := { name := "fnExactHatchLoop", fn := fun _ => fun
  | [d1, d2, d3] => { results := [.lit (.bool true)], args := [d1, d2, d3] }
  | _ => none }
def fnExactHatchLoopRow : OpenClaim := { program := "ytpaangcbcknhlaa", sum := "2e64ae351543684417d91e9693a566690ed6253b9276b61a81afed00f655fab9", func := "loop.example/g01249/laws.FnExactHatchLoop", spec := "fnExactHatchLoop", unfollowed := true, recurses := true, apart := false }
def FnExactHatchLoopSaid : Prop := fnExactHatchLoopRow.holds Try.pinned (OpenSpec.ofChange fnExactHatchLoopSpec)

/-- ITS FALSE NEIGHBOUR: 'it returns false'. Refute it at one input. -/
def fnExactHatchLoopWrong : ChangeSpec := { name := "fnExactHatchLoop", fn := fun _ => fun
  | [d1, d2, d3] => { results := [.lit (.bool false)], args := [d1, d2, d3] }
  | _ => none }
def FnExactHatchLoopWrongFalsely : Prop := fnExactHatchLoopRow.holds Try.pinned (OpenSpec.ofChange fnExactHatchLoopWrong)

/- THE SECOND FORM. 'bulk': how many values and letters a reading holds, each counted each time it is reached (what is shared counts as often as it is met; a slice's spare places count too). A statement '..UptoSaid' is the law's where the arguments, and the package variables that the reading takes, are together of bulk at most 1048576: NARROWER than '..Said'. Prove '..Said' where nothing that the law and all that it calls make is longer than what came in: it says more and counts as full. Else prove '..UptoSaid'. A law counts once. -/
mutual
def uptoBulk {H : Type} : DataW H → Nat
  | .lit (.string bytes) => bytes.length + 1
  | .lit _ => 1
  | .nil => 1
  | .ptr d => uptoBulk d + 1
  | .slice elems spare => uptoBulkAll elems + uptoBulkAll spare + 1
  | .agg parts => uptoBulkAll parts + 1
  | .iface _ d => uptoBulk d + 1
  | .map entries => uptoBulkEntries entries + 1
  | .held _ => 1
def uptoBulkAll {H : Type} : List (DataW H) → Nat
  | [] => 0
  | d :: r => uptoBulk d + uptoBulkAll r
def uptoBulkEntries {H : Type} : List (Lit × DataW H) → Nat
  | [] => 0
  | x :: r => uptoBulkEntry x + uptoBulkEntries r
def uptoBulkEntry {H : Type} : Lit × DataW H → Nat
  | (.string bytes, d) => bytes.length + uptoBulk d + 1
  | (_, d) => uptoBulk d + 1
 end
def uptoSmall : (H : Type) → List (DataW H) → Bool := fun _ ds => decide (uptoBulkAll ds ≤ 1048576)
def OpenSpec.upto (s : _root_.Go.ChangeSpec) : _root_.Go.OpenSpec := { _root_.Go.OpenSpec.ofChange s with cond := some uptoSmall }

/-- 'laws.FnExactSameClaim', WHERE WHAT IT READS IS OF BULK AT MOST 1048576: true; the input reads as it did. -/
def fnExactSameClaimUptoRow : OpenClaim := { program := "ytpaangcbcknhlaa", sum := "2e64ae351543684417d91e9693a566690ed6253b9276b61a81afed00f655fab9", func := "loop.example/g01249/laws.FnExactSameClaim", spec := "fnExactSameClaim", inPlace := ["math.Float32bits"], apart := false, narrowed := true }
def FnExactSameClaimUptoSaid : Prop := fnExactSameClaimUptoRow.holds Try.pinned (OpenSpec.upto fnExactSameClaimSpec)

/-- 'laws.FnExactSameSolid', WHERE WHAT IT READS IS OF BULK AT MOST 1048576: true; the input reads as it did. -/
def fnExactSameSolidUptoRow : OpenClaim := { program := "ytpaangcbcknhlaa", sum := "2e64ae351543684417d91e9693a566690ed6253b9276b61a81afed00f655fab9", func := "loop.example/g01249/laws.FnExactSameSolid", spec := "fnExactSameSolid", inPlace := ["math.Float32bits"], unfollowed := true, recurses := true, apart := false, narrowed := true }
def FnExactSameSolidUptoSaid : Prop := fnExactSameSolidUptoRow.holds Try.pinned (OpenSpec.upto fnExactSameSolidSpec)

/-- 'laws.FnExactSameScene', WHERE WHAT IT READS IS OF BULK AT MOST 1048576: true; the input reads as it did. -/
def fnExactSameSceneUptoRow : OpenClaim := { program := "ytpaangcbcknhlaa", sum := "2e64ae351543684417d91e9693a566690ed6253b9276b61a81afed00f655fab9", func := "loop.example/g01249/laws.FnExactSameScene", spec := "fnExactSameScene", inPlace := ["math.Float32bits"], unfollowed := true, recurses := true, apart := false, narrowed := true }
def FnExactSameSceneUptoSaid : Prop := fnExactSameSceneUptoRow.holds Try.pinned (OpenSpec.upto fnExactSameSceneSpec)

/-- 'laws.FnExactMarkOf', WHERE WHAT IT READS IS OF BULK AT MOST 1048576: true; the input reads as it did. -/
def fnExactMarkOfUptoRow : OpenClaim := { program := "ytpaangcbcknhlaa", sum := "2e64ae351543684417d91e9693a566690ed6253b9276b61a81afed00f655fab9", func := "loop.example/g01249/laws.FnExactMarkOf", spec := "fnExactMarkOf", inPlace := ["math.archFloor", "math.Float64bits", "math.Float64frombits", "math.archTrunc"], apart := false, narrowed := true }
def FnExactMarkOfUptoSaid : Prop := fnExactMarkOfUptoRow.holds Try.pinned (OpenSpec.upto fnExactMarkOfSpec)

/-- 'laws.FnExactHasInk', WHERE WHAT IT READS IS OF BULK AT MOST 1048576: true; the input reads as it did. -/
def fnExactHasInkUptoRow : OpenClaim := { program := "ytpaangcbcknhlaa", sum := "2e64ae351543684417d91e9693a566690ed6253b9276b61a81afed00f655fab9", func := "loop.example/g01249/laws.FnExactHasInk", spec := "fnExactHasInk", apart := false, narrowed := true }
def FnExactHasInkUptoSaid : Prop := fnExactHasInkUptoRow.holds Try.pinned (OpenSpec.upto fnExactHasInkSpec)

/-- 'laws.FnExactCountInk', WHERE WHAT IT READS IS OF BULK AT MOST 1048576: true; the input reads as it did. -/
def fnExactCountInkUptoRow : OpenClaim := { program := "ytpaangcbcknhlaa", sum := "2e64ae351543684417d91e9693a566690ed6253b9276b61a81afed00f655fab9", func := "loop.example/g01249/laws.FnExactCountInk", spec := "fnExactCountInk", apart := false, narrowed := true }
def FnExactCountInkUptoSaid : Prop := fnExactCountInkUptoRow.holds Try.pinned (OpenSpec.upto fnExactCountInkSpec)

/-- 'laws.FnExactDrawStroke', WHERE WHAT IT READS IS OF BULK AT MOST 1048576: true; the input reads as it did. -/
def fnExactDrawStrokeUptoRow : OpenClaim := { program := "ytpaangcbcknhlaa", sum := "2e64ae351543684417d91e9693a566690ed6253b9276b61a81afed00f655fab9", func := "loop.example/g01249/laws.FnExactDrawStroke", spec := "fnExactDrawStroke", unfollowed := true, recurses := true, apart := false, narrowed := true }
def FnExactDrawStrokeUptoSaid : Prop := fnExactDrawStrokeUptoRow.holds Try.pinned (OpenSpec.upto fnExactDrawStrokeSpec)

/-- 'laws.FnExactSheetText', WHERE WHAT IT READS IS OF BULK AT MOST 1048576: true; the input reads as it did. -/
def fnExactSheetTextUptoRow : OpenClaim := { program := "ytpaangcbcknhlaa", sum := "2e64ae351543684417d91e9693a566690ed6253b9276b61a81afed00f655fab9", func := "loop.example/g01249/laws.FnExactSheetText", spec := "fnExactSheetText", inPlace := ["internal/abi.NoEscape"], apart := false, narrowed := true }
def FnExactSheetTextUptoSaid : Prop := fnExactSheetTextUptoRow.holds Try.pinned (OpenSpec.upto fnExactSheetTextSpec)

/-- 'laws.FnExactWayOf', WHERE WHAT IT READS IS OF BULK AT MOST 1048576: true; the input reads as it did. -/
def fnExactWayOfUptoRow : OpenClaim := { program := "ytpaangcbcknhlaa", sum := "2e64ae351543684417d91e9693a566690ed6253b9276b61a81afed00f655fab9", func := "loop.example/g01249/laws.FnExactWayOf", spec := "fnExactWayOf", unfollowed := true, recurses := true, apart := false, narrowed := true }
def FnExactWayOfUptoSaid : Prop := fnExactWayOfUptoRow.holds Try.pinned (OpenSpec.upto fnExactWayOfSpec)

/-- 'laws.FnExactHatchLoop', WHERE WHAT IT READS IS OF BULK AT MOST 1048576: true; the input reads as it did. -/
def fnExactHatchLoopUptoRow : OpenClaim := { program := "ytpaangcbcknhlaa", sum := "2e64ae351543684417d91e9693a566690ed6253b9276b61a81afed00f655fab9", func := "loop.example/g01249/laws.FnExactHatchLoop", spec := "fnExactHatchLoop", unfollowed := true, recurses := true, apart := false, narrowed := true }
def FnExactHatchLoopUptoSaid : Prop := fnExactHatchLoopUptoRow.holds Try.pinned (OpenSpec.upto fnExactHatchLoopSpec)

end Rows
end Go.Proofs.Ytpaangcbcknhlaa
