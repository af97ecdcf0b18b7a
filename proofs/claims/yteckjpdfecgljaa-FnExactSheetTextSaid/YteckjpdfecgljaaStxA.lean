/- The text of a sheet: mathematics. -/
import Derived.Test.YteckjpdfecgljaaShtG
import Derived.Test.YteckjpdfecgljaaPtX
import Derived.Lib.UnsafeStr
namespace Go.Proofs.Yteckjpdfecgljaa
--## d
open Go.ChangeShapes Go.WideShapes Go.ChangeAt Go.RowKit Go.Flo Go.Mem
set_option linter.unusedSimpArgs false
set_option linter.unusedVariables false
set_option maxRecDepth 20000
--## d
def dg (z : Int) (k : Nat) : UInt8 := Sx.digitB (z.toNat / 2 ^ k % 16)
--## d
def hexR (z : Int) (n : Nat) : List UInt8 := (List.range n).map fun i => dg z (4 * (15 - i))
--## d
def rowT (z : Int) : List UInt8 := hexR z 16 ++ [10]
--## d
def txt (zs : List Int) (y : Nat) : List UInt8 := (zs.take y).flatMap rowT
--## d
theorem hexR_len (z : Int) (n : Nat) : (hexR z n).length = n := by simp [hexR]
--## d
theorem hexR_succ (z : Int) (n : Nat) : hexR z (n + 1) = hexR z n ++ [dg z (4 * (15 - n))] := by
  unfold hexR
  rw [List.range_succ, List.map_append]
  rfl
--## d
theorem txt_succ {zs : List Int} {y : Nat} {z : Int} (h : zs[y]? = some z) : txt zs (y + 1) = txt zs y ++ rowT z := by
  unfold txt
  rw [List.take_add_one, h, List.flatMap_append]
  simp
--## d
theorem txt_len {zs : List Int} : ∀ y, y ≤ zs.length → (txt zs y).length = 17 * y
  | 0, _ => rfl
  | y + 1, h => by
    obtain ⟨z, hz⟩ : ∃ z, zs[y]? = some z := ⟨zs[y], List.getElem?_eq_getElem h⟩
    rw [txt_succ hz, List.length_append, txt_len y (by omega)]
    simp [rowT, hexR_len]
    omega
--## d
theorem and15z (z : Int) (k : Nat) (hz : 0 ≤ z ∧ z < 18446744073709551616) : bits BinOp.and IntKind.u64 (z / 2 ^ k) 15 = ((z.toNat / 2 ^ k % 16 : Nat) : Int) := by
  obtain ⟨n, rfl⟩ : ∃ n : Nat, z = n := ⟨z.toNat, by omega⟩
  have hd : n / 2 ^ k ≤ n := Nat.div_le_self _ _
  have e2 : ((n : Int) / 2 ^ k) = ((n / 2 ^ k : Nat) : Int) := by simp
  have := u64_and_nat (n / 2 ^ k) 15 (by omega) (by omega)
  rw [e2, show bits BinOp.and IntKind.u64 ((n / 2 ^ k : Nat) : Int) 15 = _ from this, Int.toNat_natCast]
  rw [show (n / 2 ^ k) &&& 15 = n / 2 ^ k % 16 from Nat.and_two_pow_sub_one_eq_mod _ 4]
--## d
theorem dg_lt (z : Int) (k : Nat) : z.toNat / 2 ^ k % 16 < 16 := Nat.mod_lt _ (by decide)
--## d
end Go.Proofs.Yteckjpdfecgljaa
