/- Contracts: lists of marks are valid. -/
import Derived.Test.YteckjpdfecgljaaMrkA
import Derived.Test.YteckjpdfecgljaaLstG
namespace Go.Proofs.Yteckjpdfecgljaa
--## d
open Go.RowKit Go.Mem
set_option linter.unusedSimpArgs false
set_option linter.unusedVariables false
set_option maxRecDepth 20000
--## d
def rM (ms : List (Int × Int)) : List (List Value) := ms.map fun m => [.int .i16 m.1, .int .i16 m.2]
--## d
theorem rM_len {ms : List (Int × Int)} : (rM ms).length = ms.length := by simp [rM]
--## d
theorem rM_get {ms : List (Int × Int)} {i : Nat} {m : Int × Int} (h : ms[i]? = some m) : (rM ms)[i]? = some [.int .i16 m.1, .int .i16 m.2] := by simp [rM, h]
--## d
def allM (ms : List (Int × Int)) : Bool := ms.all fun m => okM m.1 m.2
--## d
theorem allM_take {ms : List (Int × Int)} {i : Nat} {m : Int × Int} (hm : ms[i]? = some m) (h : allM (ms.take i) = true) : allM (ms.take (i + 1)) = okM m.1 m.2 := by
  have hi : i < ms.length := (List.getElem?_eq_some_iff.mp hm).1
  have he : ms[i] = m := (List.getElem?_eq_some_iff.mp hm).2
  unfold allM at *
  rw [List.take_succ_eq_append_getElem hi, List.all_append, h, he]; simp
--## d
theorem allM_bad {ms : List (Int × Int)} {i : Nat} {m : Int × Int} (hm : ms[i]? = some m) (h : okM m.1 m.2 = false) : allM ms = false := by
  unfold allM
  rw [List.all_eq_false]
  exact ⟨m, List.mem_of_getElem? hm, by simp [h]⟩
--## d
end Go.Proofs.Yteckjpdfecgljaa
