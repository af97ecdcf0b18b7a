/- Contracts: sheets: a mark is put. -/
import Derived.Test.YteckjpdfecgljaaMrkF
import Derived.StillTailTactics
namespace Go.Proofs.Yteckjpdfecgljaa
--## d
open Go.RowKit Go.Mem
set_option linter.unusedSimpArgs false
set_option linter.unusedVariables false
set_option maxRecDepth 20000
--## d
def rU (zs : List Int) : List Value := zs.map fun z => .int .u64 z
--## d
theorem rU_len {zs : List Int} : (rU zs).length = zs.length := by simp [rU]
--## d
theorem rU_get {zs : List Int} {i : Nat} {z : Int} (h : zs[i]? = some z) : (rU zs)[i]? = some (.int .u64 z) := by simp [rU, h]
--## d
def onF (x y : Int) : Bool := decide (0 ≤ x) && decide (x ≤ 63) && decide (0 ≤ y) && decide (y ≤ 63)
--## d
/-- the bit of a mark, set; cleared as the model does it; cleared as the program does it -/
def setB (z : Int) (x : Nat) : Int := bits BinOp.or IntKind.u64 z (IntKind.u64.wrap (2 ^ x))
--## d
def clrS (z : Int) (x : Nat) : Int := bits BinOp.xor IntKind.u64 (setB z x) (IntKind.u64.wrap (2 ^ x))
--## d
def clrI (z : Int) (x : Nat) : Int := bits BinOp.andNot IntKind.u64 z (IntKind.u64.wrap (2 ^ x))
--## d
def putS (zs : List Int) (ink : Bool) (x y : Int) : List Int := if onF x y then zs.set y.toNat (if ink then setB (zs.getD y.toNat 0) x.toNat else clrS (zs.getD y.toNat 0) x.toNat) else zs
--## d
def putI (zs : List Int) (ink : Bool) (x y : Int) : List Int := if onF x y then zs.set y.toNat (if ink then setB (zs.getD y.toNat 0) x.toNat else clrI (zs.getD y.toNat 0) x.toNat) else zs
--## d
theorem putS_len (zs : List Int) (ink : Bool) (x y : Int) : (putS zs ink x y).length = zs.length := by unfold putS; split <;> simp
--## d
theorem putI_len (zs : List Int) (ink : Bool) (x y : Int) : (putI zs ink x y).length = zs.length := by unfold putI; split <;> simp
--## d
theorem rU_set (zs : List Int) (y : Nat) (v : Int) (h : y < zs.length) : splice (rU zs) y [.int .u64 v] = rU (zs.set y v) := by
  apply List.ext_getElem?
  intro j
  rw [splice_get _ _ _ _ (by rw [rU_len]; simp; omega)]
  unfold rU
  rw [List.getElem?_map, List.getElem?_map, List.getElem?_set]
  by_cases hj : j = y
  · subst hj
    rw [if_pos (by simp)]
    simp [h]
  · rw [if_neg (by simp; omega), if_neg (by omega)]
--## d
theorem onF_true {x y : Int} (h : onF x y = true) : ∃ a b : Nat, x = a ∧ y = b ∧ a < 64 ∧ b < 64 := by
  simp [onF] at h
  exact ⟨x.toNat, y.toNat, by omega, by omega, by omega, by omega⟩
--## d
theorem Mem.tail2 {w0 W : World} {r l : Blocks} {x : Nat × List Value} (h : Mem w0 W r (x :: l)) : Mem w0 W r l :=
  ⟨h.below, h.old, fun y hy => h.new y (List.mem_cons_of_mem _ hy), (List.nodup_cons.1 h.apart).2⟩
--## d
end Go.Proofs.Yteckjpdfecgljaa
