/-
  NARROWER THAN 'FOR EVERY INPUT', by the rows' own cells (each row's printed sentence says how): FnExactReadPoint: laid · FnExactReadCamera: laid · FnExactReadLamp: laid · FnExactShadowOfPoint: ifaces, laid.
  DERIVED. THE GIVEN ROWS OF THIS SEAT. 4 by the template 'for every input the law returns true; each argument reads behind the call as it read before'; 0 by the template 'total and deterministic' (their statements: YtnjckcampgankaaDoorTotals.lean).
  GIVEN WITH THE SEED: the statements are not yours to turn. If you find one false, say at which input.
  Laid BY PROGRAM, IN A SANDBOX (cutbox-rows.mjs): the forced cells as the released guide's own fill.sh prints them over the translation f4d89a81a006a70d… (all of the seat's roots in one cut). By AI agents, Wed Nov 11 2026. No macro, syntax, notation, axiom, sorry.
-/
import Derived.Test.YtnjckcampgankaaDoorChecked
import GoSem.PinnedTables
import GoSem.Claim
import GoSem.ClaimJoined
import GoSem.ClaimMapViews
import Derived.JoinedTies
import Derived.KernelRfl
namespace Go.Proofs.YtnjckcampgankaaDoor
/- THE CELL 'sum', in the pinned program and in every row, IS THE sha256 OF THE DUMP (.gsa) THAT YtnjckcampgankaaDoorProg.lean LOADS. Nothing in Lean hashes anything: it is a label: what it is worth is what the hold of that sum in a sandbox is worth. -/
noncomputable def Tryd.pinned : Pinned := { name := "ytnjckcampgankaadoor", sum := "f4d89a81a006a70d84245b6b57b4f3dfda5c1ddc1f28ead64d799ba261fb3ae7", checked := Tryd.checked }
namespace Rows
def none {H : Type} : Left H := { results := [], args := [] }

/- WHAT THE LISTED PACKAGE-LEVEL VARIABLES READ AS WHEN THE CALL BEGINS. Each datum BY PROGRAM (the guide's laid-datum.mjs) off the statement by which the dump's own 'gosem.cut.vars' lays the variable. In a bare row this is a premise. The card (YtnjckcampgankaaDoorCards.lean) ties it to the program's text. -/
def laid_unicode_utf8_acceptRanges {H : Type} : DataW H := .agg [.agg [.lit (.int .u8 128), .lit (.int .u8 191)], .agg [.lit (.int .u8 160), .lit (.int .u8 191)], .agg [.lit (.int .u8 128), .lit (.int .u8 159)], .agg [.lit (.int .u8 144), .lit (.int .u8 191)], .agg [.lit (.int .u8 128), .lit (.int .u8 143)], .agg [.lit (.int .u8 0), .lit (.int .u8 0)], .agg [.lit (.int .u8 0), .lit (.int .u8 0)], .agg [.lit (.int .u8 0), .lit (.int .u8 0)], .agg [.lit (.int .u8 0), .lit (.int .u8 0)], .agg [.lit (.int .u8 0), .lit (.int .u8 0)], .agg [.lit (.int .u8 0), .lit (.int .u8 0)], .agg [.lit (.int .u8 0), .lit (.int .u8 0)], .agg [.lit (.int .u8 0), .lit (.int .u8 0)], .agg [.lit (.int .u8 0), .lit (.int .u8 0)], .agg [.lit (.int .u8 0), .lit (.int .u8 0)], .agg [.lit (.int .u8 0), .lit (.int .u8 0)]]
/-- One of Go's own tables, pinned by name: the form's constant. -/
def laid_unicode_utf8_first : DataW Unit := Go.Pinned.utf8First
def laid_loop_example_g01249_impl_errInvalid {H : Type} : DataW H := .iface "*errors.errorString" (.ptr (.agg [.lit (.string [97, 32, 108, 97, 109, 112, 44, 32, 97, 32, 112, 111, 105, 110, 116, 44, 32, 97, 32, 112, 108, 97, 110, 101, 32, 111, 114, 32, 97, 32, 115, 111, 108, 105, 100, 32, 105, 115, 32, 110, 111, 116, 32, 118, 97, 108, 105, 100])]))
def laid_loop_example_g01249_impl_errRange {H : Type} : DataW H := .iface "*errors.errorString" (.ptr (.agg [.lit (.string [116, 104, 101, 114, 101, 32, 97, 114, 101, 32, 116, 111, 111, 32, 109, 97, 110, 121, 32, 111, 114, 32, 116, 111, 111, 32, 102, 101, 119, 44, 32, 111, 114, 32, 116, 104, 101, 114, 101, 32, 105, 115, 32, 110, 111, 32, 115, 117, 99, 104, 32, 111, 110, 101])]))
def laid_loop_example_g01249_impl_errState {H : Type} : DataW H := .iface "*errors.errorString" (.ptr (.agg [.lit (.string [116, 104, 105, 115, 32, 99, 97, 110, 110, 111, 116, 32, 98, 101, 32, 99, 97, 108, 99, 117, 108, 97, 116, 101, 100])]))
def laid_loop_example_g01249_impl_errNotFound {H : Type} : DataW H := .iface "*errors.errorString" (.ptr (.agg [.lit (.string [116, 104, 101, 114, 101, 32, 105, 115, 32, 110, 111, 110, 101])]))

/-- 'laws.FnExactReadPoint': WHATEVER THE INPUT: true; the input reads as it did. -/
def fnExactReadPointSpec : ChangeSpec := { name := "fnExactReadPoint", fn := fun _ => fun
  | [d] => { results := [.lit (.bool true)], args := [d] }
  | _ => none }
def fnExactReadPointRow : OpenClaim := { program := "ytnjckcampgankaadoor", sum := "f4d89a81a006a70d84245b6b57b4f3dfda5c1ddc1f28ead64d799ba261fb3ae7", func := "loop.example/g01249/laws.FnExactReadPoint", spec := "fnExactReadPoint", inPlace := ["math.Float32frombits", "math.Float32bits", "internal/bytealg.CountString", "internal/bytealg.IndexByteString", "internal/bytealg.IndexString"], named := ["unicode/utf8.first", "unicode/utf8.acceptRanges", "internal/bytealg.MaxLen"], apart := false, laid := [("unicode/utf8.acceptRanges", laid_unicode_utf8_acceptRanges), ("unicode/utf8.first", laid_unicode_utf8_first)] }
def FnExactReadPointSaid : Prop := fnExactReadPointRow.holds Tryd.pinned (OpenSpec.ofChange fnExactReadPointSpec)

/-- ITS FALSE NEIGHBOUR: 'it returns false'. Refute it at one input. -/
def fnExactReadPointWrong : ChangeSpec := { name := "fnExactReadPoint", fn := fun _ => fun
  | [d] => { results := [.lit (.bool false)], args := [d] }
  | _ => none }
def FnExactReadPointWrongFalsely : Prop := fnExactReadPointRow.holds Tryd.pinned (OpenSpec.ofChange fnExactReadPointWrong)

/-- 'laws.FnExactReadCamera': WHATEVER THE INPUT: true; the input reads as it did. -/
def fnExactReadCameraSpec : ChangeSpec := { name := "fnExactReadCamera", fn := fun _ => fun
  | [d] => { results := [.lit (.bool true)], args := [d] }
  | _ => none }
def fnExactReadCameraRow : OpenClaim := { program := "ytnjckcampgankaadoor", sum := "f4d89a81a006a70d84245b6b57b4f3dfda5c1ddc1f28ead64d799ba261fb3ae7", func := "loop.example/g01249/laws.FnExactReadCamera", spec := "fnExactReadCamera", inPlace := ["math.Float32frombits", "math.Float32bits", "math.sqrt", "internal/bytealg.CountString", "internal/bytealg.IndexByteString", "internal/bytealg.IndexString", "math.Float64bits", "math.Float64frombits"], named := ["unicode/utf8.first", "unicode/utf8.acceptRanges", "internal/bytealg.MaxLen"], apart := false, laid := [("unicode/utf8.acceptRanges", laid_unicode_utf8_acceptRanges), ("unicode/utf8.first", laid_unicode_utf8_first)] }
def FnExactReadCameraSaid : Prop := fnExactReadCameraRow.holds Tryd.pinned (OpenSpec.ofChange fnExactReadCameraSpec)

/-- ITS FALSE NEIGHBOUR: 'it returns false'. Refute it at one input. -/
def fnExactReadCameraWrong : ChangeSpec := { name := "fnExactReadCamera", fn := fun _ => fun
  | [d] => { results := [.lit (.bool false)], args := [d] }
  | _ => none }
def FnExactReadCameraWrongFalsely : Prop := fnExactReadCameraRow.holds Tryd.pinned (OpenSpec.ofChange fnExactReadCameraWrong)

/-- 'laws.FnExactReadLamp': WHATEVER THE INPUT: true; the input reads as it did. -/
def fnExactReadLampSpec : ChangeSpec := { name := "fnExactReadLamp", fn := fun _ => fun
  | [d] => { results := [.lit (.bool true)], args := [d] }
  | _ => none }
def fnExactReadLampRow : OpenClaim := { program := "ytnjckcampgankaadoor", sum := "f4d89a81a006a70d84245b6b57b4f3dfda5c1ddc1f28ead64d799ba261fb3ae7", func := "loop.example/g01249/laws.FnExactReadLamp", spec := "fnExactReadLamp", inPlace := ["math.Float32frombits", "math.Float32bits", "math.sqrt", "internal/bytealg.IndexByteString", "internal/bytealg.IndexString", "internal/bytealg.CountString"], named := ["internal/bytealg.MaxLen", "unicode/utf8.first", "unicode/utf8.acceptRanges"], apart := false, laid := [("unicode/utf8.acceptRanges", laid_unicode_utf8_acceptRanges), ("unicode/utf8.first", laid_unicode_utf8_first)] }
def FnExactReadLampSaid : Prop := fnExactReadLampRow.holds Tryd.pinned (OpenSpec.ofChange fnExactReadLampSpec)

/-- ITS FALSE NEIGHBOUR: 'it returns false'. Refute it at one input. -/
def fnExactReadLampWrong : ChangeSpec := { name := "fnExactReadLamp", fn := fun _ => fun
  | [d] => { results := [.lit (.bool false)], args := [d] }
  | _ => none }
def FnExactReadLampWrongFalsely : Prop := fnExactReadLampRow.holds Tryd.pinned (OpenSpec.ofChange fnExactReadLampWrong)

/-- 'laws.FnExactShadowOfPoint': WHATEVER THE INPUT: true; the input reads as it did. -/
def fnExactShadowOfPointSpec : ChangeSpec := { name := "fnExactShadowOfPoint", vars := ["loop.example/g01249/impl.errInvalid", "loop.example/g01249/impl.errRange", "loop.example/g01249/impl.errNotFound", "loop.example/g01249/impl.errState"], fn := fun _ => fun
  | [d1, d2, d3, g1, g2, g3, g4] => { results := [.lit (.bool true)], args := [d1, d2, d3], vars := [g1, g2, g3, g4] }
  | _ => none }
def fnExactShadowOfPointRow : OpenClaim := { program := "ytnjckcampgankaadoor", sum := "f4d89a81a006a70d84245b6b57b4f3dfda5c1ddc1f28ead64d799ba261fb3ae7", func := "loop.example/g01249/laws.FnExactShadowOfPoint", spec := "fnExactShadowOfPoint", inPlace := ["math.sqrt", "internal/reflectlite.TypeOf", "math.Float64bits", "math.Float64frombits"], unfollowed := true, recurses := true, named := ["loop.example/g01249/impl.errInvalid", "loop.example/g01249/impl.errRange", "loop.example/g01249/impl.errNotFound", "loop.example/g01249/impl.errState"], ifaces := true, apart := false, laid := [("loop.example/g01249/impl.errInvalid", laid_loop_example_g01249_impl_errInvalid), ("loop.example/g01249/impl.errRange", laid_loop_example_g01249_impl_errRange), ("loop.example/g01249/impl.errState", laid_loop_example_g01249_impl_errState), ("loop.example/g01249/impl.errNotFound", laid_loop_example_g01249_impl_errNotFound)] }
def FnExactShadowOfPointSaid : Prop := fnExactShadowOfPointRow.holds Tryd.pinned (OpenSpec.ofChange fnExactShadowOfPointSpec)

/-- ITS FALSE NEIGHBOUR: 'it returns false'. Refute it at one input. -/
def fnExactShadowOfPointWrong : ChangeSpec := { name := "fnExactShadowOfPoint", vars := ["loop.example/g01249/impl.errInvalid", "loop.example/g01249/impl.errRange", "loop.example/g01249/impl.errNotFound", "loop.example/g01249/impl.errState"], fn := fun _ => fun
  | [d1, d2, d3, g1, g2, g3, g4] => { results := [.lit (.bool false)], args := [d1, d2, d3], vars := [g1, g2, g3, g4] }
  | _ => none }
def FnExactShadowOfPointWrongFalsely : Prop := fnExactShadowOfPointRow.holds Tryd.pinned (OpenSpec.ofChange fnExactShadowOfPointWrong)

/- THE SECOND FORM. 'bulk': how many values and letters a reading holds, each counted each time it is reached (what is shared counts as often as it is met; a slice's spare places count too). A statement '..UptoSaid' is the law's where the arguments, and the package variables that the reading takes, are together of bulk at most 1048576: NARROWER than '..Said'. Prove '..Said' where nothing that the law and all that it calls make is longer than what came in: it says more and counts as full. Else prove '..UptoSaid'. A law counts once. -/
mutual
def uptoBulk {H : Type} : DataW H → Nat
  | .lit (.string bytes) => bytes.length + 1
  | .lit _ => 1
  | .nil => 1
  | .ptr d => uptoBulk d + 1
  | .slice elems spare => uptoBulkAll elems + uptoBulkAll spare + 1
  | .agg parts => uptoBulkAll parts + 1
  | .iface _ d => uptoBulk d + 1
  | .map entries => uptoBulkEntries entries + 1
  | .held _ => 1
def uptoBulkAll {H : Type} : List (DataW H) → Nat
  | [] => 0
  | d :: r => uptoBulk d + uptoBulkAll r
def uptoBulkEntries {H : Type} : List (Lit × DataW H) → Nat
  | [] => 0
  | x :: r => uptoBulkEntry x + uptoBulkEntries r
def uptoBulkEntry {H : Type} : Lit × DataW H → Nat
  | (.string bytes, d) => bytes.length + uptoBulk d + 1
  | (_, d) => uptoBulk d + 1
 end
def uptoSmall : (H : Type) → List (DataW H) → Bool := fun _ ds => decide (uptoBulkAll ds ≤ 1048576)
def OpenSpec.upto (s : _root_.Go.ChangeSpec) : _root_.Go.OpenSpec := { _root_.Go.OpenSpec.ofChange s with cond := some uptoSmall }

/-- 'laws.FnExactReadPoint', WHERE WHAT IT READS IS OF BULK AT MOST 1048576: true; the input reads as it did. -/
def fnExactReadPointUptoRow : OpenClaim := { program := "ytnjckcampgankaadoor", sum := "f4d89a81a006a70d84245b6b57b4f3dfda5c1ddc1f28ead64d799ba261fb3ae7", func := "loop.example/g01249/laws.FnExactReadPoint", spec := "fnExactReadPoint", inPlace := ["math.Float32frombits", "math.Float32bits", "internal/bytealg.CountString", "internal/bytealg.IndexByteString", "internal/bytealg.IndexString"], named := ["unicode/utf8.first", "unicode/utf8.acceptRanges", "internal/bytealg.MaxLen"], apart := false, laid := [("unicode/utf8.acceptRanges", laid_unicode_utf8_acceptRanges), ("unicode/utf8.first", laid_unicode_utf8_first)], narrowed := true }
def FnExactReadPointUptoSaid : Prop := fnExactReadPointUptoRow.holds Tryd.pinned (OpenSpec.upto fnExactReadPointSpec)

/-- 'laws.FnExactReadCamera', WHERE WHAT IT READS IS OF BULK AT MOST 1048576: true; the input reads as it did. -/
def fnExactReadCameraUptoRow : OpenClaim := { program := "ytnjckcampgankaadoor", sum := "f4d89a81a006a70d84245b6b57b4f3dfda5c1ddc1f28ead64d799ba261fb3ae7", func := "loop.example/g01249/laws.FnExactReadCamera", spec := "fnExactReadCamera", inPlace := ["math.Float32frombits", "math.Float32bits", "math.sqrt", "internal/bytealg.CountString", "internal/bytealg.IndexByteString", "internal/bytealg.IndexString", "math.Float64bits", "math.Float64frombits"], named := ["unicode/utf8.first", "unicode/utf8.acceptRanges", "internal/bytealg.MaxLen"], apart := false, laid := [("unicode/utf8.acceptRanges", laid_unicode_utf8_acceptRanges), ("unicode/utf8.first", laid_unicode_utf8_first)], narrowed := true }
def FnExactReadCameraUptoSaid : Prop := fnExactReadCameraUptoRow.holds Tryd.pinned (OpenSpec.upto fnExactReadCameraSpec)

/-- 'laws.FnExactReadLamp', WHERE WHAT IT READS IS OF BULK AT MOST 1048576: true; the input reads as it did. -/
def fnExactReadLampUptoRow : OpenClaim := { program := "ytnjckcampgankaadoor", sum := "f4d89a81a006a70d84245b6b57b4f3dfda5c1ddc1f28ead64d799ba261fb3ae7", func := "loop.example/g01249/laws.FnExactReadLamp", spec := "fnExactReadLamp", inPlace := ["math.Float32frombits", "math.Float32bits", "math.sqrt", "internal/bytealg.IndexByteString", "internal/bytealg.IndexString", "internal/bytealg.CountString"], named := ["internal/bytealg.MaxLen", "unicode/utf8.first", "unicode/utf8.acceptRanges"], apart := false, laid := [("unicode/utf8.acceptRanges", laid_unicode_utf8_acceptRanges), ("unicode/utf8.first", laid_unicode_utf8_first)], narrowed := true }
def FnExactReadLampUptoSaid : Prop := fnExactReadLampUptoRow.holds Tryd.pinned (OpenSpec.upto fnExactReadLampSpec)

/-- 'laws.FnExactShadowOfPoint', WHERE WHAT IT READS IS OF BULK AT MOST 1048576: true; the input reads as it did. -/
def fnExactShadowOfPointUptoRow : OpenClaim := { program := "ytnjckcampgankaadoor", sum := "f4d89a81a006a70d84245b6b57b4f3dfda5c1ddc1f28ead64d799ba261fb3ae7", func := "loop.example/g01249/laws.FnExactShadowOfPoint", spec := "fnExactShadowOfPoint", inPlace := ["math.sqrt", "internal/reflectlite.TypeOf", "math.Float64bits", "math.Float64frombits"], unfollowed := true, recurses := true, named := ["loop.example/g01249/impl.errInvalid", "loop.example/g01249/impl.errRange", "loop.example/g01249/impl.errNotFound", "loop.example/g01249/impl.errState"], ifaces := true, apart := false, laid := [("loop.example/g01249/impl.errInvalid", laid_loop_example_g01249_impl_errInvalid), ("loop.example/g01249/impl.errRange", laid_loop_example_g01249_impl_errRange), ("loop.example/g01249/impl.errState", laid_loop_example_g01249_impl_errState), ("loop.example/g01249/impl.errNotFound", laid_loop_example_g01249_impl_errNotFound)], narrowed := true }
def FnExactShadowOfPointUptoSaid : Prop := fnExactShadowOfPointUptoRow.holds Tryd.pinned (OpenSpec.upto fnExactShadowOfPointSpec)

end Rows
end Go.Proofs.YtnjckcampgankaaDoor
