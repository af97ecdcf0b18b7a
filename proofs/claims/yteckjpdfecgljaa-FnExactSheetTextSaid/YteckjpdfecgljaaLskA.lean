/- Contracts: the laws' own functions over lists of strokes, marks, whole numbers, truths: copied, measured, compared. -/
import Derived.Test.YteckjpdfecgljaaMrkO
import Derived.Test.YteckjpdfecgljaaLstG
import Derived.Test.YteckjpdfecgljaaEqS
import Derived.Test.YteckjpdfecgljaaMrkB
namespace Go.Proofs.Yteckjpdfecgljaa
--## d
open Go.ChangeShapes Go.WideShapes Go.ChangeAt Go.RowKit Go.Flo Go.Mem
set_option linter.unusedSimpArgs false
set_option linter.unusedVariables false
set_option maxRecDepth 20000
--## d
def rK (zs : List (Int × Int × Int × Int × Int)) : List (List Value) := zs.map fun z => [.int .i16 z.1, .int .i16 z.2.1, .int .i16 z.2.2.1, .int .i16 z.2.2.2.1, .int .i8 z.2.2.2.2]
--## d
theorem rK_len {zs : List (Int × Int × Int × Int × Int)} : (rK zs).length = zs.length := by simp [rK]
--## d
theorem rK_row {zs : List (Int × Int × Int × Int × Int)} : ∀ r ∈ rK zs, r.length = 5 := by
  intro r hr
  simp only [rK, List.mem_map] at hr
  obtain ⟨t, _, rfl⟩ := hr
  rfl
--## d
theorem rK_get {zs : List (Int × Int × Int × Int × Int)} {i : Nat} {z : Int × Int × Int × Int × Int} (h : zs[i]? = some z) : (rK zs)[i]? = some [.int .i16 z.1, .int .i16 z.2.1, .int .i16 z.2.2.1, .int .i16 z.2.2.2.1, .int .i8 z.2.2.2.2] := by simp [rK, h]
--## d
end Go.Proofs.Yteckjpdfecgljaa
