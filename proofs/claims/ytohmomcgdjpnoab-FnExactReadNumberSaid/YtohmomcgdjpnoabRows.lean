/-
  No cell of these rows narrows 'for every input' (looked for: loops, veiled, ifaces, maps, wideKeys, modest, calm, conditions, laid).
  DERIVED. THE GIVEN ROWS OF THIS SEAT. 6 by the template 'for every input the law returns true; each argument reads behind the call as it read before'; 0 by the template 'total and deterministic' (their statements: YtohmomcgdjpnoabTotals.lean).
  GIVEN WITH THE SEED: the statements are not yours to turn. If you find one false, say at which input.
  Laid BY PROGRAM, IN A SANDBOX (cutbox-rows.mjs): the forced cells as the released guide's own fill.sh prints them over the translation 9dd186a976db8f3a… (all of the seat's roots in one cut). By AI agents, Wed Nov 11 2026. No macro, syntax, notation, axiom, sorry.
-/
import Derived.Test.YtohmomcgdjpnoabChecked
import GoSem.Claim
import GoSem.ClaimJoined
import GoSem.ClaimMapViews
import Derived.JoinedTies
import Derived.KernelRfl
namespace Go.Proofs.Ytohmomcgdjpnoab
/- THE CELL 'sum', in the pinned program and in every row, IS THE sha256 OF THE DUMP (.gsa) THAT YtohmomcgdjpnoabProg.lean LOADS. Nothing in Lean hashes anything: it is a label: what it is worth is what the hold of that sum in a sandbox is worth. -/
noncomputable def Try.pinned : Pinned := { name := "ytohmomcgdjpnoab", sum := "9dd186a976db8f3a92d0007d38c91e5aa1867fdcee7275034878a2931d6f9327", checked := Try.checked }
namespace Rows
def none {H : Type} : Left H := { results := [], args := [] }

/-- 'laws.FnExactProjectLines': WHATEVER THE INPUT: true; the input reads as it did. -/
def fnExactProjectLinesSpec : ChangeSpec := { name := "fnExactProjectLines", fn := fun _ => fun
  | [d1, d2] => { results := [.lit (.bool true)], args := [d1, d2] }
  | _ => none }
def fnExactProjectLinesRow : OpenClaim := { program := "ytohmomcgdjpnoab", sum := "9dd186a976db8f3a92d0007d38c91e5aa1867fdcee7275034878a2931d6f9327", func := "loop.example/g01249/laws.FnExactProjectLines", spec := "fnExactProjectLines", inPlace := ["math.sqrt", "math.Float64bits", "math.Float64frombits"], unfollowed := true, recurses := true, apart := false }
def FnExactProjectLinesSaid : Prop := fnExactProjectLinesRow.holds Try.pinned (OpenSpec.ofChange fnExactProjectLinesSpec)

/-- ITS FALSE NEIGHBOUR: 'it returns false'. Refute it at one input. -/
def fnExactProjectLinesWrong : ChangeSpec := { name := "fnExactProjectLines", fn := fun _ => fun
  | [d1, d2] => { results := [.lit (.bool false)], args := [d1, d2] }
  | _ => none }
def FnExactProjectLinesWrongFalsely : Prop := fnExactProjectLinesRow.holds Try.pinned (OpenSpec.ofChange fnExactProjectLinesWrong)

/-- 'laws.FnExactNumberText': WHATEVER THE INPUT: true; the input reads as it did. -/
def fnExactNumberTextSpec : ChangeSpec := { name := "fnExactNumberText", fn := fun _ => fun
  | [d] => { results := [.lit (.bool true)], args := [d] }
  | _ => none }
def fnExactNumberTextRow : OpenClaim := { program := "ytohmomcgdjpnoab", sum := "9dd186a976db8f3a92d0007d38c91e5aa1867fdcee7275034878a2931d6f9327", func := "loop.example/g01249/laws.FnExactNumberText", spec := "fnExactNumberText", inPlace := ["math.Float32bits"], apart := false }
def FnExactNumberTextSaid : Prop := fnExactNumberTextRow.holds Try.pinned (OpenSpec.ofChange fnExactNumberTextSpec)

/-- ITS FALSE NEIGHBOUR: 'it returns false'. Refute it at one input. -/
def fnExactNumberTextWrong : ChangeSpec := { name := "fnExactNumberText", fn := fun _ => fun
  | [d] => { results := [.lit (.bool false)], args := [d] }
  | _ => none }
def FnExactNumberTextWrongFalsely : Prop := fnExactNumberTextRow.holds Try.pinned (OpenSpec.ofChange fnExactNumberTextWrong)

/-- 'laws.FnExactReadNumber': WHATEVER THE INPUT: true; the input reads as it did. -/
def fnExactReadNumberSpec : ChangeSpec := { name := "fnExactReadNumber", fn := fun _ => fun
  | [d] => { results := [.lit (.bool true)], args := [d] }
  | _ => none }
def fnExactReadNumberRow : OpenClaim := { program := "ytohmomcgdjpnoab", sum := "9dd186a976db8f3a92d0007d38c91e5aa1867fdcee7275034878a2931d6f9327", func := "loop.example/g01249/laws.FnExactReadNumber", spec := "fnExactReadNumber", inPlace := ["math.Float32frombits", "math.Float32bits", "internal/bytealg.IndexByteString"], apart := false }
def FnExactReadNumberSaid : Prop := fnExactReadNumberRow.holds Try.pinned (OpenSpec.ofChange fnExactReadNumberSpec)

/-- ITS FALSE NEIGHBOUR: 'it returns false'. Refute it at one input. -/
def fnExactReadNumberWrong : ChangeSpec := { name := "fnExactReadNumber", fn := fun _ => fun
  | [d] => { results := [.lit (.bool false)], args := [d] }
  | _ => none }
def FnExactReadNumberWrongFalsely : Prop := fnExactReadNumberRow.holds Try.pinned (OpenSpec.ofChange fnExactReadNumberWrong)

/-- 'laws.FnExactPointText': WHATEVER THE INPUT: true; the input reads as it did. -/
def fnExactPointTextSpec : ChangeSpec := { name := "fnExactPointText", fn := fun _ => fun
  | [d] => { results := [.lit (.bool true)], args := [d] }
  | _ => none }
def fnExactPointTextRow : OpenClaim := { program := "ytohmomcgdjpnoab", sum := "9dd186a976db8f3a92d0007d38c91e5aa1867fdcee7275034878a2931d6f9327", func := "loop.example/g01249/laws.FnExactPointText", spec := "fnExactPointText", inPlace := ["math.Float32bits"], apart := false }
def FnExactPointTextSaid : Prop := fnExactPointTextRow.holds Try.pinned (OpenSpec.ofChange fnExactPointTextSpec)

/-- ITS FALSE NEIGHBOUR: 'it returns false'. Refute it at one input. -/
def fnExactPointTextWrong : ChangeSpec := { name := "fnExactPointText", fn := fun _ => fun
  | [d] => { results := [.lit (.bool false)], args := [d] }
  | _ => none }
def FnExactPointTextWrongFalsely : Prop := fnExactPointTextRow.holds Try.pinned (OpenSpec.ofChange fnExactPointTextWrong)

/-- 'laws.FnExactCameraText': WHATEVER THE INPUT: true; the input reads as it did. -/
def fnExactCameraTextSpec : ChangeSpec := { name := "fnExactCameraText", fn := fun _ => fun
  | [d] => { results := [.lit (.bool true)], args := [d] }
  | _ => none }
def fnExactCameraTextRow : OpenClaim := { program := "ytohmomcgdjpnoab", sum := "9dd186a976db8f3a92d0007d38c91e5aa1867fdcee7275034878a2931d6f9327", func := "loop.example/g01249/laws.FnExactCameraText", spec := "fnExactCameraText", inPlace := ["math.sqrt", "math.Float32bits", "math.Float64bits", "math.Float64frombits", "internal/abi.NoEscape", "internal/bytealg.MakeNoZero"], apart := false }
def FnExactCameraTextSaid : Prop := fnExactCameraTextRow.holds Try.pinned (OpenSpec.ofChange fnExactCameraTextSpec)

/-- ITS FALSE NEIGHBOUR: 'it returns false'. Refute it at one input. -/
def fnExactCameraTextWrong : ChangeSpec := { name := "fnExactCameraText", fn := fun _ => fun
  | [d] => { results := [.lit (.bool false)], args := [d] }
  | _ => none }
def FnExactCameraTextWrongFalsely : Prop := fnExactCameraTextRow.holds Try.pinned (OpenSpec.ofChange fnExactCameraTextWrong)

/-- 'laws.FnExactLampText': WHATEVER THE INPUT: true; the input reads as it did. -/
def fnExactLampTextSpec : ChangeSpec := { name := "fnExactLampText", fn := fun _ => fun
  | [d] => { results := [.lit (.bool true)], args := [d] }
  | _ => none }
def fnExactLampTextRow : OpenClaim := { program := "ytohmomcgdjpnoab", sum := "9dd186a976db8f3a92d0007d38c91e5aa1867fdcee7275034878a2931d6f9327", func := "loop.example/g01249/laws.FnExactLampText", spec := "fnExactLampText", inPlace := ["math.sqrt", "math.Float32bits"], apart := false }
def FnExactLampTextSaid : Prop := fnExactLampTextRow.holds Try.pinned (OpenSpec.ofChange fnExactLampTextSpec)

/-- ITS FALSE NEIGHBOUR: 'it returns false'. Refute it at one input. -/
def fnExactLampTextWrong : ChangeSpec := { name := "fnExactLampText", fn := fun _ => fun
  | [d] => { results := [.lit (.bool false)], args := [d] }
  | _ => none }
def FnExactLampTextWrongFalsely : Prop := fnExactLampTextRow.holds Try.pinned (OpenSpec.ofChange fnExactLampTextWrong)

/- THE SECOND FORM. 'bulk': how many values and letters a reading holds, each counted each time it is reached (what is shared counts as often as it is met; a slice's spare places count too). A statement '..UptoSaid' is the law's where the arguments, and the package variables that the reading takes, are together of bulk at most 1048576: NARROWER than '..Said'. Prove '..Said' where nothing that the law and all that it calls make is longer than what came in: it says more and counts as full. Else prove '..UptoSaid'. A law counts once. -/
mutual
def uptoBulk {H : Type} : DataW H → Nat
  | .lit (.string bytes) => bytes.length + 1
  | .lit _ => 1
  | .nil => 1
  | .ptr d => uptoBulk d + 1
  | .slice elems spare => uptoBulkAll elems + uptoBulkAll spare + 1
  | .agg parts => uptoBulkAll parts + 1
  | .iface _ d => uptoBulk d + 1
  | .map entries => uptoBulkEntries entries + 1
  | .held _ => 1
def uptoBulkAll {H : Type} : List (DataW H) → Nat
  | [] => 0
  | d :: r => uptoBulk d + uptoBulkAll r
def uptoBulkEntries {H : Type} : List (Lit × DataW H) → Nat
  | [] => 0
  | x :: r => uptoBulkEntry x + uptoBulkEntries r
def uptoBulkEntry {H : Type} : Lit × DataW H → Nat
  | (.string bytes, d) => bytes.length + uptoBulk d + 1
  | (_, d) => uptoBulk d + 1
 end
def uptoSmall : (H : Type) → List (DataW H) → Bool := fun _ ds => decide (uptoBulkAll ds ≤ 1048576)
def OpenSpec.upto (s : _root_.Go.ChangeSpec) : _root_.Go.OpenSpec := { _root_.Go.OpenSpec.ofChange s with cond := some uptoSmall }

/-- 'laws.FnExactProjectLines', WHERE WHAT IT READS IS OF BULK AT MOST 1048576: true; the input reads as it did. -/
def fnExactProjectLinesUptoRow : OpenClaim := { program := "ytohmomcgdjpnoab", sum := "9dd186a976db8f3a92d0007d38c91e5aa1867fdcee7275034878a2931d6f9327", func := "loop.example/g01249/laws.FnExactProjectLines", spec := "fnExactProjectLines", inPlace := ["math.sqrt", "math.Float64bits", "math.Float64frombits"], unfollowed := true, recurses := true, apart := false, narrowed := true }
def FnExactProjectLinesUptoSaid : Prop := fnExactProjectLinesUptoRow.holds Try.pinned (OpenSpec.upto fnExactProjectLinesSpec)

/-- 'laws.FnExactNumberText', WHERE WHAT IT READS IS OF BULK AT MOST 1048576: true; the input reads as it did. -/
def fnExactNumberTextUptoRow : OpenClaim := { program := "ytohmomcgdjpnoab", sum := "9dd186a976db8f3a92d0007d38c91e5aa1867fdcee7275034878a2931d6f9327", func := "loop.example/g01249/laws.FnExactNumberText", spec := "fnExactNumberText", inPlace := ["math.Float32bits"], apart := false, narrowed := true }
def FnExactNumberTextUptoSaid : Prop := fnExactNumberTextUptoRow.holds Try.pinned (OpenSpec.upto fnExactNumberTextSpec)

/-- 'laws.FnExactReadNumber', WHERE WHAT IT READS IS OF BULK AT MOST 1048576: true; the input reads as it did. -/
def fnExactReadNumberUptoRow : OpenClaim := { program := "ytohmomcgdjpnoab", sum := "9dd186a976db8f3a92d0007d38c91e5aa1867fdcee7275034878a2931d6f9327", func := "loop.example/g01249/laws.FnExactReadNumber", spec := "fnExactReadNumber", inPlace := ["math.Float32frombits", "math.Float32bits", "internal/bytealg.IndexByteString"], apart := false, narrowed := true }
def FnExactReadNumberUptoSaid : Prop := fnExactReadNumberUptoRow.holds Try.pinned (OpenSpec.upto fnExactReadNumberSpec)

/-- 'laws.FnExactPointText', WHERE WHAT IT READS IS OF BULK AT MOST 1048576: true; the input reads as it did. -/
def fnExactPointTextUptoRow : OpenClaim := { program := "ytohmomcgdjpnoab", sum := "9dd186a976db8f3a92d0007d38c91e5aa1867fdcee7275034878a2931d6f9327", func := "loop.example/g01249/laws.FnExactPointText", spec := "fnExactPointText", inPlace := ["math.Float32bits"], apart := false, narrowed := true }
def FnExactPointTextUptoSaid : Prop := fnExactPointTextUptoRow.holds Try.pinned (OpenSpec.upto fnExactPointTextSpec)

/-- 'laws.FnExactCameraText', WHERE WHAT IT READS IS OF BULK AT MOST 1048576: true; the input reads as it did. -/
def fnExactCameraTextUptoRow : OpenClaim := { program := "ytohmomcgdjpnoab", sum := "9dd186a976db8f3a92d0007d38c91e5aa1867fdcee7275034878a2931d6f9327", func := "loop.example/g01249/laws.FnExactCameraText", spec := "fnExactCameraText", inPlace := ["math.sqrt", "math.Float32bits", "math.Float64bits", "math.Float64frombits", "internal/abi.NoEscape", "internal/bytealg.MakeNoZero"], apart := false, narrowed := true }
def FnExactCameraTextUptoSaid : Prop := fnExactCameraTextUptoRow.holds Try.pinned (OpenSpec.upto fnExactCameraTextSpec)

/-- 'laws.FnExactLampText', WHERE WHAT IT READS IS OF BULK AT MOST 1048576: true; the input reads as it did. -/
def fnExactLampTextUptoRow : OpenClaim := { program := "ytohmomcgdjpnoab", sum := "9dd186a976db8f3a92d0007d38c91e5aa1867fdcee7275034878a2931d6f9327", func := "loop.example/g01249/laws.FnExactLampText", spec := "fnExactLampText", inPlace := ["math.sqrt", "math.Float32bits"], apart := false, narrowed := true }
def FnExactLampTextUptoSaid : Prop := fnExactLampTextUptoRow.holds Try.pinned (OpenSpec.upto fnExactLampTextSpec)

end Rows
end Go.Proofs.Ytohmomcgdjpnoab
