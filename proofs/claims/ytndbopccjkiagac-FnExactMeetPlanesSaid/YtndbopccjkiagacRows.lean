/-
  No cell of these rows narrows 'for every input' (looked for: loops, veiled, ifaces, maps, wideKeys, modest, calm, conditions, laid).
  DERIVED. THE GIVEN ROWS OF THIS SEAT. 11 by the template 'for every input the law returns true; each argument reads behind the call as it read before'; 0 by the template 'total and deterministic' (their statements: YtndbopccjkiagacTotals.lean).
  GIVEN WITH THE SEED: the statements are not yours to turn. If you find one false, say at which input.
  Laid BY PROGRAM, IN A SANDBOX (cutbox-rows.mjs): the forced cells as the released guide's own fill.sh prints them over the translation 80c52b195cf4ad61… (all of the seat's roots in one cut). By AI agents, Wed Nov 11 2026. No macro, syntax, notation, axiom, sorry.
-/
import Derived.Test.YtndbopccjkiagacChecked
import GoSem.Claim
import GoSem.ClaimJoined
import GoSem.ClaimMapViews
import Derived.JoinedTies
import Derived.KernelRfl
namespace Go.Proofs.Ytndbopccjkiagac
/- THE CELL 'sum', in the pinned program and in every row, IS THE sha256 OF THE DUMP (.gsa) THAT YtndbopccjkiagacProg.lean LOADS. Nothing in Lean hashes anything: it is a label: what it is worth is what the hold of that sum in a sandbox is worth. -/
noncomputable def Try.pinned : Pinned := { name := "ytndbopccjkiagac", sum := "80c52b195cf4ad618203205d1f1f1e8f3ec72fb0c7549f4b412b89a56c6a459c", checked := Try.checked }
namespace Rows
def none {H : Type} : Left H := { results := [], args := [] }

/-- 'laws.FnExactFootOf': WHATEVER THE INPUT: true; the input reads as it did. -/
def fnExactFootOfSpec : ChangeSpec := { name := "fnExactFootOf", fn := fun _ => fun
  | [d1, d2] => { results := [.lit (.bool true)], args := [d1, d2] }
  | _ => none }
def fnExactFootOfRow : OpenClaim := { program := "ytndbopccjkiagac", sum := "80c52b195cf4ad618203205d1f1f1e8f3ec72fb0c7549f4b412b89a56c6a459c", func := "loop.example/g01249/laws.FnExactFootOf", spec := "fnExactFootOf", inPlace := ["math.sqrt"], apart := false }
def FnExactFootOfSaid : Prop := fnExactFootOfRow.holds Try.pinned (OpenSpec.ofChange fnExactFootOfSpec)

/-- ITS FALSE NEIGHBOUR: 'it returns false'. Refute it at one input. -/
def fnExactFootOfWrong : ChangeSpec := { name := "fnExactFootOf", fn := fun _ => fun
  | [d1, d2] => { results := [.lit (.bool false)], args := [d1, d2] }
  | _ => none }
def FnExactFootOfWrongFalsely : Prop := fnExactFootOfRow.holds Try.pinned (OpenSpec.ofChange fnExactFootOfWrong)

/-- 'laws.FnExactMirrorPoint': WHATEVER THE INPUT: true; the input reads as it did. -/
def fnExactMirrorPointSpec : ChangeSpec := { name := "fnExactMirrorPoint", fn := fun _ => fun
  | [d1, d2] => { results := [.lit (.bool true)], args := [d1, d2] }
  | _ => none }
def fnExactMirrorPointRow : OpenClaim := { program := "ytndbopccjkiagac", sum := "80c52b195cf4ad618203205d1f1f1e8f3ec72fb0c7549f4b412b89a56c6a459c", func := "loop.example/g01249/laws.FnExactMirrorPoint", spec := "fnExactMirrorPoint", inPlace := ["math.sqrt"], apart := false }
def FnExactMirrorPointSaid : Prop := fnExactMirrorPointRow.holds Try.pinned (OpenSpec.ofChange fnExactMirrorPointSpec)

/-- ITS FALSE NEIGHBOUR: 'it returns false'. Refute it at one input. -/
def fnExactMirrorPointWrong : ChangeSpec := { name := "fnExactMirrorPoint", fn := fun _ => fun
  | [d1, d2] => { results := [.lit (.bool false)], args := [d1, d2] }
  | _ => none }
def FnExactMirrorPointWrongFalsely : Prop := fnExactMirrorPointRow.holds Try.pinned (OpenSpec.ofChange fnExactMirrorPointWrong)

/-- 'laws.FnExactMeetLine': WHATEVER THE INPUT: true; the input reads as it did. -/
def fnExactMeetLineSpec : ChangeSpec := { name := "fnExactMeetLine", fn := fun _ => fun
  | [d1, d2, d3] => { results := [.lit (.bool true)], args := [d1, d2, d3] }
  | _ => none }
def fnExactMeetLineRow : OpenClaim := { program := "ytndbopccjkiagac", sum := "80c52b195cf4ad618203205d1f1f1e8f3ec72fb0c7549f4b412b89a56c6a459c", func := "loop.example/g01249/laws.FnExactMeetLine", spec := "fnExactMeetLine", inPlace := ["math.sqrt", "math.Float64bits", "math.Float64frombits"], apart := false }
def FnExactMeetLineSaid : Prop := fnExactMeetLineRow.holds Try.pinned (OpenSpec.ofChange fnExactMeetLineSpec)

/-- ITS FALSE NEIGHBOUR: 'it returns false'. Refute it at one input. -/
def fnExactMeetLineWrong : ChangeSpec := { name := "fnExactMeetLine", fn := fun _ => fun
  | [d1, d2, d3] => { results := [.lit (.bool false)], args := [d1, d2, d3] }
  | _ => none }
def FnExactMeetLineWrongFalsely : Prop := fnExactMeetLineRow.holds Try.pinned (OpenSpec.ofChange fnExactMeetLineWrong)

/-- 'laws.FnExactMeetPlanes': WHATEVER THE INPUT: true; the input reads as it did. -/
def fnExactMeetPlanesSpec : ChangeSpec := { name := "fnExactMeetPlanes", fn := fun _ => fun
  | [d1, d2] => { results := [.lit (.bool true)], args := [d1, d2] }
  | _ => none }
def fnExactMeetPlanesRow : OpenClaim := { program := "ytndbopccjkiagac", sum := "80c52b195cf4ad618203205d1f1f1e8f3ec72fb0c7549f4b412b89a56c6a459c", func := "loop.example/g01249/laws.FnExactMeetPlanes", spec := "fnExactMeetPlanes", inPlace := ["math.sqrt", "math.Float64bits", "math.Float64frombits"], apart := false }
def FnExactMeetPlanesSaid : Prop := fnExactMeetPlanesRow.holds Try.pinned (OpenSpec.ofChange fnExactMeetPlanesSpec)

/-- ITS FALSE NEIGHBOUR: 'it returns false'. Refute it at one input. -/
def fnExactMeetPlanesWrong : ChangeSpec := { name := "fnExactMeetPlanes", fn := fun _ => fun
  | [d1, d2] => { results := [.lit (.bool false)], args := [d1, d2] }
  | _ => none }
def FnExactMeetPlanesWrongFalsely : Prop := fnExactMeetPlanesRow.holds Try.pinned (OpenSpec.ofChange fnExactMeetPlanesWrong)

/-- 'laws.FnExactSineOf': WHATEVER THE INPUT: true; the input reads as it did. -/
def fnExactSineOfSpec : ChangeSpec := { name := "fnExactSineOf", fn := fun _ => fun
  | [d] => { results := [.lit (.bool true)], args := [d] }
  | _ => none }
def fnExactSineOfRow : OpenClaim := { program := "ytndbopccjkiagac", sum := "80c52b195cf4ad618203205d1f1f1e8f3ec72fb0c7549f4b412b89a56c6a459c", func := "loop.example/g01249/laws.FnExactSineOf", spec := "fnExactSineOf", inPlace := ["math.Float64frombits", "math.RoundToEven"], apart := false }
def FnExactSineOfSaid : Prop := fnExactSineOfRow.holds Try.pinned (OpenSpec.ofChange fnExactSineOfSpec)

/-- ITS FALSE NEIGHBOUR: 'it returns false'. Refute it at one input. -/
def fnExactSineOfWrong : ChangeSpec := { name := "fnExactSineOf", fn := fun _ => fun
  | [d] => { results := [.lit (.bool false)], args := [d] }
  | _ => none }
def FnExactSineOfWrongFalsely : Prop := fnExactSineOfRow.holds Try.pinned (OpenSpec.ofChange fnExactSineOfWrong)

/-- 'laws.FnExactTurnAround': WHATEVER THE INPUT: true; the input reads as it did. -/
def fnExactTurnAroundSpec : ChangeSpec := { name := "fnExactTurnAround", fn := fun _ => fun
  | [d1, d2, d3] => { results := [.lit (.bool true)], args := [d1, d2, d3] }
  | _ => none }
def fnExactTurnAroundRow : OpenClaim := { program := "ytndbopccjkiagac", sum := "80c52b195cf4ad618203205d1f1f1e8f3ec72fb0c7549f4b412b89a56c6a459c", func := "loop.example/g01249/laws.FnExactTurnAround", spec := "fnExactTurnAround", inPlace := ["math.sqrt", "math.Float64frombits", "math.RoundToEven", "math.Float64bits"], apart := false }
def FnExactTurnAroundSaid : Prop := fnExactTurnAroundRow.holds Try.pinned (OpenSpec.ofChange fnExactTurnAroundSpec)

/-- ITS FALSE NEIGHBOUR: 'it returns false'. Refute it at one input. -/
def fnExactTurnAroundWrong : ChangeSpec := { name := "fnExactTurnAround", fn := fun _ => fun
  | [d1, d2, d3] => { results := [.lit (.bool false)], args := [d1, d2, d3] }
  | _ => none }
def FnExactTurnAroundWrongFalsely : Prop := fnExactTurnAroundRow.holds Try.pinned (OpenSpec.ofChange fnExactTurnAroundWrong)

/-- 'laws.FnExactNumberText': WHATEVER THE INPUT: true; the input reads as it did. -/
def fnExactNumberTextSpec : ChangeSpec := { name := "fnExactNumberText", fn := fun _ => fun
  | [d] => { results := [.lit (.bool true)], args := [d] }
  | _ => none }
def fnExactNumberTextRow : OpenClaim := { program := "ytndbopccjkiagac", sum := "80c52b195cf4ad618203205d1f1f1e8f3ec72fb0c7549f4b412b89a56c6a459c", func := "loop.example/g01249/laws.FnExactNumberText", spec := "fnExactNumberText", inPlace := ["math.Float32bits"], apart := false }
def FnExactNumberTextSaid : Prop := fnExactNumberTextRow.holds Try.pinned (OpenSpec.ofChange fnExactNumberTextSpec)

/-- ITS FALSE NEIGHBOUR: 'it returns false'. Refute it at one input. -/
def fnExactNumberTextWrong : ChangeSpec := { name := "fnExactNumberText", fn := fun _ => fun
  | [d] => { results := [.lit (.bool false)], args := [d] }
  | _ => none }
def FnExactNumberTextWrongFalsely : Prop := fnExactNumberTextRow.holds Try.pinned (OpenSpec.ofChange fnExactNumberTextWrong)

/-- 'laws.FnExactReadNumber': WHATEVER THE INPUT: true; the input reads as it did. -/
def fnExactReadNumberSpec : ChangeSpec := { name := "fnExactReadNumber", fn := fun _ => fun
  | [d] => { results := [.lit (.bool true)], args := [d] }
  | _ => none }
def fnExactReadNumberRow : OpenClaim := { program := "ytndbopccjkiagac", sum := "80c52b195cf4ad618203205d1f1f1e8f3ec72fb0c7549f4b412b89a56c6a459c", func := "loop.example/g01249/laws.FnExactReadNumber", spec := "fnExactReadNumber", inPlace := ["math.Float32frombits", "math.Float32bits", "internal/bytealg.IndexByteString"], apart := false }
def FnExactReadNumberSaid : Prop := fnExactReadNumberRow.holds Try.pinned (OpenSpec.ofChange fnExactReadNumberSpec)

/-- ITS FALSE NEIGHBOUR: 'it returns false'. Refute it at one input. -/
def fnExactReadNumberWrong : ChangeSpec := { name := "fnExactReadNumber", fn := fun _ => fun
  | [d] => { results := [.lit (.bool false)], args := [d] }
  | _ => none }
def FnExactReadNumberWrongFalsely : Prop := fnExactReadNumberRow.holds Try.pinned (OpenSpec.ofChange fnExactReadNumberWrong)

/-- 'laws.FnExactPointText': WHATEVER THE INPUT: true; the input reads as it did. -/
def fnExactPointTextSpec : ChangeSpec := { name := "fnExactPointText", fn := fun _ => fun
  | [d] => { results := [.lit (.bool true)], args := [d] }
  | _ => none }
def fnExactPointTextRow : OpenClaim := { program := "ytndbopccjkiagac", sum := "80c52b195cf4ad618203205d1f1f1e8f3ec72fb0c7549f4b412b89a56c6a459c", func := "loop.example/g01249/laws.FnExactPointText", spec := "fnExactPointText", inPlace := ["math.Float32bits"], apart := false }
def FnExactPointTextSaid : Prop := fnExactPointTextRow.holds Try.pinned (OpenSpec.ofChange fnExactPointTextSpec)

/-- ITS FALSE NEIGHBOUR: 'it returns false'. Refute it at one input. -/
def fnExactPointTextWrong : ChangeSpec := { name := "fnExactPointText", fn := fun _ => fun
  | [d] => { results := [.lit (.bool false)], args := [d] }
  | _ => none }
def FnExactPointTextWrongFalsely : Prop := fnExactPointTextRow.holds Try.pinned (OpenSpec.ofChange fnExactPointTextWrong)

/-- 'laws.FnExactValidCamera': WHATEVER THE INPUT: true; the input reads as it did. -/
def fnExactValidCameraSpec : ChangeSpec := { name := "fnExactValidCamera", fn := fun _ => fun
  | [d] => { results := [.lit (.bool true)], args := [d] }
  | _ => none }
def fnExactValidCameraRow : OpenClaim := { program := "ytndbopccjkiagac", sum := "80c52b195cf4ad618203205d1f1f1e8f3ec72fb0c7549f4b412b89a56c6a459c", func := "loop.example/g01249/laws.FnExactValidCamera", spec := "fnExactValidCamera", inPlace := ["math.sqrt", "math.Float64bits", "math.Float64frombits"], apart := false }
def FnExactValidCameraSaid : Prop := fnExactValidCameraRow.holds Try.pinned (OpenSpec.ofChange fnExactValidCameraSpec)

/-- ITS FALSE NEIGHBOUR: 'it returns false'. Refute it at one input. -/
def fnExactValidCameraWrong : ChangeSpec := { name := "fnExactValidCamera", fn := fun _ => fun
  | [d] => { results := [.lit (.bool false)], args := [d] }
  | _ => none }
def FnExactValidCameraWrongFalsely : Prop := fnExactValidCameraRow.holds Try.pinned (OpenSpec.ofChange fnExactValidCameraWrong)

/-- 'laws.FnExactSameCamera': WHATEVER THE INPUT: true; the input reads as it did. -/
def fnExactSameCameraSpec : ChangeSpec := { name := "fnExactSameCamera", fn := fun _ => fun
  | [d1, d2] => { results := [.lit (.bool true)], args := [d1, d2] }
  | _ => none }
def fnExactSameCameraRow : OpenClaim := { program := "ytndbopccjkiagac", sum := "80c52b195cf4ad618203205d1f1f1e8f3ec72fb0c7549f4b412b89a56c6a459c", func := "loop.example/g01249/laws.FnExactSameCamera", spec := "fnExactSameCamera", inPlace := ["math.Float32bits"], apart := false }
def FnExactSameCameraSaid : Prop := fnExactSameCameraRow.holds Try.pinned (OpenSpec.ofChange fnExactSameCameraSpec)

/-- ITS FALSE NEIGHBOUR: 'it returns false'. Refute it at one input. -/
def fnExactSameCameraWrong : ChangeSpec := { name := "fnExactSameCamera", fn := fun _ => fun
  | [d1, d2] => { results := [.lit (.bool false)], args := [d1, d2] }
  | _ => none }
def FnExactSameCameraWrongFalsely : Prop := fnExactSameCameraRow.holds Try.pinned (OpenSpec.ofChange fnExactSameCameraWrong)

/- THE SECOND FORM. 'bulk': how many values and letters a reading holds, each counted each time it is reached (what is shared counts as often as it is met; a slice's spare places count too). A statement '..UptoSaid' is the law's where the arguments, and the package variables that the reading takes, are together of bulk at most 1048576: NARROWER than '..Said'. Prove '..Said' where nothing that the law and all that it calls make is longer than what came in: it says more and counts as full. Else prove '..UptoSaid'. A law counts once. -/
mutual
def uptoBulk {H : Type} : DataW H → Nat
  | .lit (.string bytes) => bytes.length + 1
  | .lit _ => 1
  | .nil => 1
  | .ptr d => uptoBulk d + 1
  | .slice elems spare => uptoBulkAll elems + uptoBulkAll spare + 1
  | .agg parts => uptoBulkAll parts + 1
  | .iface _ d => uptoBulk d + 1
  | .map entries => uptoBulkEntries entries + 1
  | .held _ => 1
def uptoBulkAll {H : Type} : List (DataW H) → Nat
  | [] => 0
  | d :: r => uptoBulk d + uptoBulkAll r
def uptoBulkEntries {H : Type} : List (Lit × DataW H) → Nat
  | [] => 0
  | x :: r => uptoBulkEntry x + uptoBulkEntries r
def uptoBulkEntry {H : Type} : Lit × DataW H → Nat
  | (.string bytes, d) => bytes.length + uptoBulk d + 1
  | (_, d) => uptoBulk d + 1
 end
def uptoSmall : (H : Type) → List (DataW H) → Bool := fun _ ds => decide (uptoBulkAll ds ≤ 1048576)
def OpenSpec.upto (s : _root_.Go.ChangeSpec) : _root_.Go.OpenSpec := { _root_.Go.OpenSpec.ofChange s with cond := some uptoSmall }

/-- 'laws.FnExactFootOf', WHERE WHAT IT READS IS OF BULK AT MOST 1048576: true; the input reads as it did. -/
def fnExactFootOfUptoRow : OpenClaim := { program := "ytndbopccjkiagac", sum := "80c52b195cf4ad618203205d1f1f1e8f3ec72fb0c7549f4b412b89a56c6a459c", func := "loop.example/g01249/laws.FnExactFootOf", spec := "fnExactFootOf", inPlace := ["math.sqrt"], apart := false, narrowed := true }
def FnExactFootOfUptoSaid : Prop := fnExactFootOfUptoRow.holds Try.pinned (OpenSpec.upto fnExactFootOfSpec)

/-- 'laws.FnExactMirrorPoint', WHERE WHAT IT READS IS OF BULK AT MOST 1048576: true; the input reads as it did. -/
def fnExactMirrorPointUptoRow : OpenClaim := { program := "ytndbopccjkiagac", sum := "80c52b195cf4ad618203205d1f1f1e8f3ec72fb0c7549f4b412b89a56c6a459c", func := "loop.example/g01249/laws.FnExactMirrorPoint", spec := "fnExactMirrorPoint", inPlace := ["math.sqrt"], apart := false, narrowed := true }
def FnExactMirrorPointUptoSaid : Prop := fnExactMirrorPointUptoRow.holds Try.pinned (OpenSpec.upto fnExactMirrorPointSpec)

/-- 'laws.FnExactMeetLine', WHERE WHAT IT READS IS OF BULK AT MOST 1048576: true; the input reads as it did. -/
def fnExactMeetLineUptoRow : OpenClaim := { program := "ytndbopccjkiagac", sum := "80c52b195cf4ad618203205d1f1f1e8f3ec72fb0c7549f4b412b89a56c6a459c", func := "loop.example/g01249/laws.FnExactMeetLine", spec := "fnExactMeetLine", inPlace := ["math.sqrt", "math.Float64bits", "math.Float64frombits"], apart := false, narrowed := true }
def FnExactMeetLineUptoSaid : Prop := fnExactMeetLineUptoRow.holds Try.pinned (OpenSpec.upto fnExactMeetLineSpec)

/-- 'laws.FnExactMeetPlanes', WHERE WHAT IT READS IS OF BULK AT MOST 1048576: true; the input reads as it did. -/
def fnExactMeetPlanesUptoRow : OpenClaim := { program := "ytndbopccjkiagac", sum := "80c52b195cf4ad618203205d1f1f1e8f3ec72fb0c7549f4b412b89a56c6a459c", func := "loop.example/g01249/laws.FnExactMeetPlanes", spec := "fnExactMeetPlanes", inPlace := ["math.sqrt", "math.Float64bits", "math.Float64frombits"], apart := false, narrowed := true }
def FnExactMeetPlanesUptoSaid : Prop := fnExactMeetPlanesUptoRow.holds Try.pinned (OpenSpec.upto fnExactMeetPlanesSpec)

/-- 'laws.FnExactSineOf', WHERE WHAT IT READS IS OF BULK AT MOST 1048576: true; the input reads as it did. -/
def fnExactSineOfUptoRow : OpenClaim := { program := "ytndbopccjkiagac", sum := "80c52b195cf4ad618203205d1f1f1e8f3ec72fb0c7549f4b412b89a56c6a459c", func := "loop.example/g01249/laws.FnExactSineOf", spec := "fnExactSineOf", inPlace := ["math.Float64frombits", "math.RoundToEven"], apart := false, narrowed := true }
def FnExactSineOfUptoSaid : Prop := fnExactSineOfUptoRow.holds Try.pinned (OpenSpec.upto fnExactSineOfSpec)

/-- 'laws.FnExactTurnAround', WHERE WHAT IT READS IS OF BULK AT MOST 1048576: true; the input reads as it did. -/
def fnExactTurnAroundUptoRow : OpenClaim := { program := "ytndbopccjkiagac", sum := "80c52b195cf4ad618203205d1f1f1e8f3ec72fb0c7549f4b412b89a56c6a459c", func := "loop.example/g01249/laws.FnExactTurnAround", spec := "fnExactTurnAround", inPlace := ["math.sqrt", "math.Float64frombits", "math.RoundToEven", "math.Float64bits"], apart := false, narrowed := true }
def FnExactTurnAroundUptoSaid : Prop := fnExactTurnAroundUptoRow.holds Try.pinned (OpenSpec.upto fnExactTurnAroundSpec)

/-- 'laws.FnExactNumberText', WHERE WHAT IT READS IS OF BULK AT MOST 1048576: true; the input reads as it did. -/
def fnExactNumberTextUptoRow : OpenClaim := { program := "ytndbopccjkiagac", sum := "80c52b195cf4ad618203205d1f1f1e8f3ec72fb0c7549f4b412b89a56c6a459c", func := "loop.example/g01249/laws.FnExactNumberText", spec := "fnExactNumberText", inPlace := ["math.Float32bits"], apart := false, narrowed := true }
def FnExactNumberTextUptoSaid : Prop := fnExactNumberTextUptoRow.holds Try.pinned (OpenSpec.upto fnExactNumberTextSpec)

/-- 'laws.FnExactReadNumber', WHERE WHAT IT READS IS OF BULK AT MOST 1048576: true; the input reads as it did. -/
def fnExactReadNumberUptoRow : OpenClaim := { program := "ytndbopccjkiagac", sum := "80c52b195cf4ad618203205d1f1f1e8f3ec72fb0c7549f4b412b89a56c6a459c", func := "loop.example/g01249/laws.FnExactReadNumber", spec := "fnExactReadNumber", inPlace := ["math.Float32frombits", "math.Float32bits", "internal/bytealg.IndexByteString"], apart := false, narrowed := true }
def FnExactReadNumberUptoSaid : Prop := fnExactReadNumberUptoRow.holds Try.pinned (OpenSpec.upto fnExactReadNumberSpec)

/-- 'laws.FnExactPointText', WHERE WHAT IT READS IS OF BULK AT MOST 1048576: true; the input reads as it did. -/
def fnExactPointTextUptoRow : OpenClaim := { program := "ytndbopccjkiagac", sum := "80c52b195cf4ad618203205d1f1f1e8f3ec72fb0c7549f4b412b89a56c6a459c", func := "loop.example/g01249/laws.FnExactPointText", spec := "fnExactPointText", inPlace := ["math.Float32bits"], apart := false, narrowed := true }
def FnExactPointTextUptoSaid : Prop := fnExactPointTextUptoRow.holds Try.pinned (OpenSpec.upto fnExactPointTextSpec)

/-- 'laws.FnExactValidCamera', WHERE WHAT IT READS IS OF BULK AT MOST 1048576: true; the input reads as it did. -/
def fnExactValidCameraUptoRow : OpenClaim := { program := "ytndbopccjkiagac", sum := "80c52b195cf4ad618203205d1f1f1e8f3ec72fb0c7549f4b412b89a56c6a459c", func := "loop.example/g01249/laws.FnExactValidCamera", spec := "fnExactValidCamera", inPlace := ["math.sqrt", "math.Float64bits", "math.Float64frombits"], apart := false, narrowed := true }
def FnExactValidCameraUptoSaid : Prop := fnExactValidCameraUptoRow.holds Try.pinned (OpenSpec.upto fnExactValidCameraSpec)

/-- 'laws.FnExactSameCamera', WHERE WHAT IT READS IS OF BULK AT MOST 1048576: true; the input reads as it did. -/
def fnExactSameCameraUptoRow : OpenClaim := { program := "ytndbopccjkiagac", sum := "80c52b195cf4ad618203205d1f1f1e8f3ec72fb0c7549f4b412b89a56c6a459c", func := "loop.example/g01249/laws.FnExactSameCamera", spec := "fnExactSameCamera", inPlace := ["math.Float32bits"], apart := false, narrowed := true }
def FnExactSameCameraUptoSaid : Prop := fnExactSameCameraUptoRow.holds Try.pinned (OpenSpec.upto fnExactSameCameraSpec)

end Rows
end Go.Proofs.Ytndbopccjkiagac
