/- Contracts: lists of strokes are valid (both sides). -/
import Derived.Test.YteckjpdfecgljaaLskA
import Derived.Test.YteckjpdfecgljaaMrkD
import Derived.Test.YteckjpdfecgljaaMrkB
namespace Go.Proofs.Yteckjpdfecgljaa
--## d
open Go.RowKit Go.Mem
set_option linter.unusedSimpArgs false
set_option linter.unusedVariables false
set_option maxRecDepth 20000
--## d
abbrev S5 := Int × Int × Int × Int × Int
--## d
def okK (s : S5) : Bool := okS s.1 s.2.1 s.2.2.1 s.2.2.2.1 s.2.2.2.2
--## d
def wfK (s : S5) : Prop := I16 s.1 ∧ I16 s.2.1 ∧ I16 s.2.2.1 ∧ I16 s.2.2.2.1 ∧ I8 s.2.2.2.2
--## d
def allK (ss : List S5) : Bool := ss.all okK
--## d
def codeK (ss : List S5) (ms : List (Int × Int)) : Int := if allK ss && allM ms then (if 60 < ss.length then 3 else 0) else 1
--## d
theorem allK_take {ss : List S5} {i : Nat} {s : S5} (hs : ss[i]? = some s) (h : allK (ss.take i) = true) : allK (ss.take (i + 1)) = okK s := by
  have hi : i < ss.length := (List.getElem?_eq_some_iff.mp hs).1
  have he : ss[i] = s := (List.getElem?_eq_some_iff.mp hs).2
  unfold allK at *
  rw [List.take_succ_eq_append_getElem hi, List.all_append, h, he]; simp
--## d
theorem allK_bad {ss : List S5} {i : Nat} {s : S5} (hs : ss[i]? = some s) (h : okK s = false) : allK ss = false := by
  unfold allK
  rw [List.all_eq_false]
  exact ⟨s, List.mem_of_getElem? hs, by simp [h]⟩
--## d
end Go.Proofs.Yteckjpdfecgljaa
