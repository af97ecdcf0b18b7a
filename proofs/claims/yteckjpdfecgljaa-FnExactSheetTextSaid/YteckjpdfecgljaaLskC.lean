/- Contracts: the laws' own functions over lists of strokes, marks, whole numbers, truths: copied, measured, compared. -/
import Derived.Test.YteckjpdfecgljaaMrkO
import Derived.Test.YteckjpdfecgljaaLstG
import Derived.Test.YteckjpdfecgljaaEqS
namespace Go.Proofs.Yteckjpdfecgljaa
--## d
open Go.ChangeShapes Go.WideShapes Go.ChangeAt Go.RowKit Go.Flo Go.Mem
set_option linter.unusedSimpArgs false
set_option linter.unusedVariables false
set_option maxRecDepth 20000
--## d
def rJ (zs : List (Int)) : List (List Value) := zs.map fun z => [.int .i64 z]
--## d
theorem rJ_len {zs : List (Int)} : (rJ zs).length = zs.length := by simp [rJ]
--## d
theorem rJ_row {zs : List (Int)} : ∀ r ∈ rJ zs, r.length = 1 := by
  intro r hr
  simp only [rJ, List.mem_map] at hr
  obtain ⟨t, _, rfl⟩ := hr
  rfl
--## d
theorem rJ_get {zs : List (Int)} {i : Nat} {z : Int} (h : zs[i]? = some z) : (rJ zs)[i]? = some [.int .i64 z] := by simp [rJ, h]
--## d
def rB (zs : List (Bool)) : List (List Value) := zs.map fun z => [.bool z]
--## d
theorem rB_len {zs : List (Bool)} : (rB zs).length = zs.length := by simp [rB]
--## d
theorem rB_row {zs : List (Bool)} : ∀ r ∈ rB zs, r.length = 1 := by
  intro r hr
  simp only [rB, List.mem_map] at hr
  obtain ⟨t, _, rfl⟩ := hr
  rfl
--## d
theorem rB_get {zs : List (Bool)} {i : Nat} {z : Bool} (h : zs[i]? = some z) : (rB zs)[i]? = some [.bool z] := by simp [rB, h]
--## d
end Go.Proofs.Yteckjpdfecgljaa
