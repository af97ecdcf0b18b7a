/-
  No cell of these rows narrows 'for every input' (looked for: loops, veiled, ifaces, maps, wideKeys, modest, calm, conditions, laid).
  DERIVED. THE GIVEN ROWS OF THIS SEAT. 3 by the template 'for every input the law returns true; each argument reads behind the call as it read before'; 0 by the template 'total and deterministic' (their statements: YtbhbdpcefgledaaTotals.lean).
  GIVEN WITH THE SEED: the statements are not yours to turn. If you find one false, say at which input.
  Laid BY PROGRAM, IN A SANDBOX (cutbox-rows.mjs): the forced cells as the released guide's own fill.sh prints them over the translation 7c8b834b0c53a767… (all of the seat's roots in one cut). By AI agents, Wed Nov 11 2026. No macro, syntax, notation, axiom, sorry.
-/
import Derived.Test.YtbhbdpcefgledaaChecked
import GoSem.Claim
import GoSem.ClaimJoined
import GoSem.ClaimMapViews
import Derived.JoinedTies
import Derived.KernelRfl
namespace Go.Proofs.Ytbhbdpcefgledaa
/- THE CELL 'sum', in the pinned program and in every row, IS THE sha256 OF THE DUMP (.gsa) THAT YtbhbdpcefgledaaProg.lean LOADS. Nothing in Lean hashes anything: it is a label: what it is worth is what the hold of that sum in a sandbox is worth. -/
noncomputable def Try.pinned : Pinned := { name := "ytbhbdpcefgledaa", sum := "7c8b834b0c53a76789bc930cf24120685c150f5e501046f31776c16229158d06", checked := Try.checked }
namespace Rows
def none {H : Type} : Left H := { results := [], args := [] }

/-- 'laws.FnExactFillLoop': WHATEVER THE INPUT: true; the input reads as it did. -/
def fnExactFillLoopSpec : ChangeSpec := { name := "fnExactFillLoop", fn := fun _ => fun
  | [d1, d2, d3] => { results := [.lit (.bool true)], args := [d1, d2, d3] }
  | _ => none }
def fnExactFillLoopRow : OpenClaim := { program := "ytbhbdpcefgledaa", sum := "7c8b834b0c53a76789bc930cf24120685c150f5e501046f31776c16229158d06", func := "loop.example/g01249/laws.FnExactFillLoop", spec := "fnExactFillLoop", unfollowed := true, recurses := true, apart := false }
def FnExactFillLoopSaid : Prop := fnExactFillLoopRow.holds Try.pinned (OpenSpec.ofChange fnExactFillLoopSpec)

/-- ITS FALSE NEIGHBOUR: 'it returns false'. Refute it at one input. -/
def fnExactFillLoopWrong : ChangeSpec := { name := "fnExactFillLoop", fn := fun _ => fun
  | [d1, d2, d3] => { results := [.lit (.bool false)], args := [d1, d2, d3] }
  | _ => none }
def FnExactFillLoopWrongFalsely : Prop := fnExactFillLoopRow.holds Try.pinned (OpenSpec.ofChange fnExactFillLoopWrong)

/-- 'laws.FnExactOrderStrokes': WHATEVER THE INPUT: true; the input reads as it did. -/
def fnExactOrderStrokesSpec : ChangeSpec := { name := "fnExactOrderStrokes", fn := fun _ => fun
  | [d1, d2] => { results := [.lit (.bool true)], args := [d1, d2] }
  | _ => none }
def fnExactOrderStrokesRow : OpenClaim := { program := "ytbhbdpcefgledaa", sum := "7c8b834b0c53a76789bc930cf24120685c150f5e501046f31776c16229158d06", func := "loop.example/g01249/laws.FnExactOrderStrokes", spec := "fnExactOrderStrokes", unfollowed := true, recurses := true, apart := false }
def FnExactOrderStrokesSaid : Prop := fnExactOrderStrokesRow.holds Try.pinned (OpenSpec.ofChange fnExactOrderStrokesSpec)

/-- ITS FALSE NEIGHBOUR: 'it returns false'. Refute it at one input. -/
def fnExactOrderStrokesWrong : ChangeSpec := { name := "fnExactOrderStrokes", fn := fun _ => fun
  | [d1, d2] => { results := [.lit (.bool false)], args := [d1, d2] }
  | _ => none }
def FnExactOrderStrokesWrongFalsely : Prop := fnExactOrderStrokesRow.holds Try.pinned (OpenSpec.ofChange fnExactOrderStrokesWrong)

/-- 'laws.FnExactImproveOrder': WHATEVER THE INPUT: true; the input reads as it did. -/
def fnExactImproveOrderSpec : ChangeSpec := { name := "fnExactImproveOrder", fn := fun _ => fun
  | [d1, d2, d3, d4, d5] => { results := [.lit (.bool true)], args := [d1, d2, d3, d4, d5] }
  | _ => none }
def fnExactImproveOrderRow : OpenClaim := { program := "ytbhbdpcefgledaa", sum := "7c8b834b0c53a76789bc930cf24120685c150f5e501046f31776c16229158d06", func := "loop.example/g01249/laws.FnExactImproveOrder", spec := "fnExactImproveOrder", unfollowed := true, recurses := true, apart := false }
def FnExactImproveOrderSaid : Prop := fnExactImproveOrderRow.holds Try.pinned (OpenSpec.ofChange fnExactImproveOrderSpec)

/-- ITS FALSE NEIGHBOUR: 'it returns false'. Refute it at one input. -/
def fnExactImproveOrderWrong : ChangeSpec := { name := "fnExactImproveOrder", fn := fun _ => fun
  | [d1, d2, d3, d4, d5] => { results := [.lit (.bool false)], args := [d1, d2, d3, d4, d5] }
  | _ => none }
def FnExactImproveOrderWrongFalsely : Prop := fnExactImproveOrderRow.holds Try.pinned (OpenSpec.ofChange fnExactImproveOrderWrong)

/- THE SECOND FORM. 'bulk': how many values and letters a reading holds, each counted each time it is reached (what is shared counts as often as it is met; a slice's spare places count too). A statement '..UptoSaid' is the law's where the arguments, and the package variables that the reading takes, are together of bulk at most 1048576: NARROWER than '..Said'. Prove '..Said' where nothing that the law and all that it calls make is longer than what came in: it says more and counts as full. Else prove '..UptoSaid'. A law counts once. -/
mutual
def uptoBulk {H : Type} : DataW H → Nat
  | .lit (.string bytes) => bytes.length + 1
  | .lit _ => 1
  | .nil => 1
  | .ptr d => uptoBulk d + 1
  | .slice elems spare => uptoBulkAll elems + uptoBulkAll spare + 1
  | .agg parts => uptoBulkAll parts + 1
  | .iface _ d => uptoBulk d + 1
  | .map entries => uptoBulkEntries entries + 1
  | .held _ => 1
def uptoBulkAll {H : Type} : List (DataW H) → Nat
  | [] => 0
  | d :: r => uptoBulk d + uptoBulkAll r
def uptoBulkEntries {H : Type} : List (Lit × DataW H) → Nat
  | [] => 0
  | x :: r => uptoBulkEntry x + uptoBulkEntries r
def uptoBulkEntry {H : Type} : Lit × DataW H → Nat
  | (.string bytes, d) => bytes.length + uptoBulk d + 1
  | (_, d) => uptoBulk d + 1
 end
def uptoSmall : (H : Type) → List (DataW H) → Bool := fun _ ds => decide (uptoBulkAll ds ≤ 1048576)
def OpenSpec.upto (s : _root_.Go.ChangeSpec) : _root_.Go.OpenSpec := { _root_.Go.OpenSpec.ofChange s with cond := some uptoSmall }

/-- 'laws.FnExactFillLoop', WHERE WHAT IT READS IS OF BULK AT MOST 1048576: true; the input reads as it did. -/
def fnExactFillLoopUptoRow : OpenClaim := { program := "ytbhbdpcefgledaa", sum := "7c8b834b0c53a76789bc930cf24120685c150f5e501046f31776c16229158d06", func := "loop.example/g01249/laws.FnExactFillLoop", spec := "fnExactFillLoop", unfollowed := true, recurses := true, apart := false, narrowed := true }
def FnExactFillLoopUptoSaid : Prop := fnExactFillLoopUptoRow.holds Try.pinned (OpenSpec.upto fnExactFillLoopSpec)

/-- 'laws.FnExactOrderStrokes', WHERE WHAT IT READS IS OF BULK AT MOST 1048576: true; the input reads as it did. -/
def fnExactOrderStrokesUptoRow : OpenClaim := { program := "ytbhbdpcefgledaa", sum := "7c8b834b0c53a76789bc930cf24120685c150f5e501046f31776c16229158d06", func := "loop.example/g01249/laws.FnExactOrderStrokes", spec := "fnExactOrderStrokes", unfollowed := true, recurses := true, apart := false, narrowed := true }
def FnExactOrderStrokesUptoSaid : Prop := fnExactOrderStrokesUptoRow.holds Try.pinned (OpenSpec.upto fnExactOrderStrokesSpec)

/-- 'laws.FnExactImproveOrder', WHERE WHAT IT READS IS OF BULK AT MOST 1048576: true; the input reads as it did. -/
def fnExactImproveOrderUptoRow : OpenClaim := { program := "ytbhbdpcefgledaa", sum := "7c8b834b0c53a76789bc930cf24120685c150f5e501046f31776c16229158d06", func := "loop.example/g01249/laws.FnExactImproveOrder", spec := "fnExactImproveOrder", unfollowed := true, recurses := true, apart := false, narrowed := true }
def FnExactImproveOrderUptoSaid : Prop := fnExactImproveOrderUptoRow.holds Try.pinned (OpenSpec.upto fnExactImproveOrderSpec)

end Rows
end Go.Proofs.Ytbhbdpcefgledaa
