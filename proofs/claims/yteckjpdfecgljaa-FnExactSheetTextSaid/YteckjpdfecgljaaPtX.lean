/- Contracts: texts of numbers. -/
import Derived.Test.YteckjpdfecgljaaPtC
import Derived.Test.YteckjpdfecgljaaPtM
import Derived.Test.YteckjpdfecgljaaSxA
import Derived.WalkMore
import Derived.LoopN
import Derived.Laws.BytesString
import Derived.Laws.Cells
import Derived.Laws.MakeOwn
namespace Go.Proofs.Yteckjpdfecgljaa
open Go.RowKit Go.Flo
set_option linter.unusedSimpArgs false
set_option linter.unusedVariables false
def isHex (x : V) (v : Value) : Prop := v = .string ⟨(Sx.hexB (bitsV x)).toArray⟩
section
variable {P : Program} {ops : Array Oper} {rest : List Oper} {o : Oper} {a : Act} {W : World} {Q : Exit → Act → World → Prop}
theorem wpList_run (hgd : o.guard = none) {v : Value} (h : (execOp a.eval o).run P W = .ok (.value v) W) (hK : wpList P ops Q rest (a.put o.dst v) W) : wpList P ops Q (o :: rest) a W := by
  refine wpList_plain hgd fun K hK' => ?_
  unfold Oper.wp; rw [h]; exact hK' _ _ hK
theorem wpList_shr (hgd : o.guard = none) {t s : TypeId} {X Y : Operand} (ho : o.op = .binOp .shr t X Y s) {k k' : IntKind} {n m : Int} (hX : a.eval X = .int k n) (hY : a.eval Y = .int k' m) (hm : 0 ≤ m)
    (hK : wpList P ops Q rest (a.put o.dst (.int k (n.fdiv (2 ^ (min m.toNat k.bits))))) W) : wpList P ops Q (o :: rest) a W := by
  refine wpList_run hgd ?_ hK
  unfold execOp
  have : ¬ m < 0 := by omega
  simp [ho, hX, hY, eqGuard, binOp, Op.shift, this, Sem.run_bind]
theorem and15 (n : Nat) : IntKind.u32.wrap ((BitVec.ofInt IntKind.u32.bits (n : Int) &&& BitVec.ofInt IntKind.u32.bits 15).toNat : Int) = ((n % 16 : Nat) : Int) := by
  have key : ((BitVec.ofInt 32 (n : Int) &&& BitVec.ofInt 32 15).toNat) = n % 16 := by
    have h1 : BitVec.ofInt 32 (n : Int) = BitVec.ofNat 32 n := by simp
    have h2 : (BitVec.ofInt 32 15) = BitVec.ofNat 32 15 := rfl
    rw [h1, h2, BitVec.toNat_and, BitVec.toNat_ofNat, BitVec.toNat_ofNat]
    rw [show 15 % 2 ^ 32 = 2 ^ 4 - 1 from rfl, Nat.and_two_pow_sub_one_eq_mod]
    omega
  show IntKind.u32.wrap (((BitVec.ofInt 32 (n : Int) &&& BitVec.ofInt 32 15).toNat : Nat) : Int) = _
  rw [key]
  have h4 : n % 16 < 16 := Nat.mod_lt _ (by omega)
  unfold IntKind.wrap
  simp [IntKind.bits, IntKind.signed]
  omega
theorem wpList_and (hgd : o.guard = none) {t s : TypeId} {X Y : Operand} (ho : o.op = .binOp .and t X Y s) {n : Nat} (hX : a.eval X = .int .u32 n) (hY : a.eval Y = .int .u32 15)
    (hK : wpList P ops Q rest (a.put o.dst (.int .u32 ((n % 16 : Nat) : Int))) W) : wpList P ops Q (o :: rest) a W := by
  refine wpList_run hgd ?_ hK
  unfold execOp
  simp only [ho, hX, hY, Sem.run_bind]
  have hg : (eqGuard .and t X Y (.int .u32 n) (.int .u32 15)).run P W = .ok () W := rfl
  simp only [hg, Result.andThen_ok]
  have : (binOp .and t (.int .u32 n) (.int .u32 15)).run P W = .ok (.int .u32 ((n % 16 : Nat) : Int)) W := by
    simp only [binOp, Op.intBits]
    rw [if_neg (by simp)]
    rw [and15]; rfl
  simp only [this, Result.andThen_ok]; rfl
theorem wpList_quo (hgd : o.guard = none) {t s : TypeId} {X Y : Operand} (ho : o.op = .binOp .quo t X Y s) {n : Nat} (hX : a.eval X = .int .u32 n) (hY : a.eval Y = .int .u32 16)
    (hK : wpList P ops Q rest (a.put o.dst (.int .u32 ((n / 16 % 4294967296 : Nat) : Int))) W) : wpList P ops Q (o :: rest) a W := by
  refine wpList_run hgd ?_ hK
  unfold execOp
  have hg : (eqGuard .quo t X Y (.int .u32 n) (.int .u32 16)).run P W = .ok () W := rfl
  have h1 : IntKind.u32.wrap ((n : Int).tdiv 16) = ((n / 16 % 4294967296 : Nat) : Int) := by
    rw [Int.tdiv_eq_ediv_of_nonneg (Int.natCast_nonneg n)]
    unfold IntKind.wrap
    simp [IntKind.bits, IntKind.signed]
  have : (binOp .quo t (.int .u32 n) (.int .u32 16)).run P W = .ok (.int .u32 ((n / 16 % 4294967296 : Nat) : Int)) W := by
    simp only [binOp, Op.intDiv]
    rw [if_neg (by simp), if_neg (by decide), h1]; rfl
  simp only [ho, hX, hY, Sem.run_bind, hg, this, Result.andThen_ok]; rfl
theorem wpList_rem (hgd : o.guard = none) {t s : TypeId} {X Y : Operand} (ho : o.op = .binOp .rem t X Y s) {n : Nat} (hX : a.eval X = .int .u32 n) (hY : a.eval Y = .int .u32 16)
    (hK : wpList P ops Q rest (a.put o.dst (.int .u32 ((n % 16 : Nat) : Int))) W) : wpList P ops Q (o :: rest) a W := by
  refine wpList_run hgd ?_ hK
  unfold execOp
  have hg : (eqGuard .rem t X Y (.int .u32 n) (.int .u32 16)).run P W = .ok () W := rfl
  have h1 : (n : Int).tmod 16 = ((n % 16 : Nat) : Int) := by
    rw [Int.tmod_eq_emod_of_nonneg (Int.natCast_nonneg n)]; simp
  have : (binOp .rem t (.int .u32 n) (.int .u32 16)).run P W = .ok (.int .u32 ((n % 16 : Nat) : Int)) W := by
    simp only [binOp, Op.intDiv]
    rw [if_neg (by simp), if_neg (by decide), h1]; rfl
  simp only [ho, hX, hY, Sem.run_bind, hg, this, Result.andThen_ok]; rfl
def hexS : ByteArray := { data := #[48, 49, 50, 51, 52, 53, 54, 55, 56, 57, 97, 98, 99, 100, 101, 102] }
theorem hexS_get (n : Nat) (h : n < 16) : hexS[n]? = some (Sx.digitB n) := by
  have : ∀ i : Fin 16, hexS[i.val]? = some (Sx.digitB i.val) := by decide
  exact this ⟨n, h⟩
theorem wpList_dig (hgd : o.guard = none) {t : TypeId} {Y : Operand} (ho : o.op = .index t (.const (.string hexS)) Y) (ht : P.underlying t = some .string) {k : IntKind} {n : Nat} (hn : n < 16) (hY : a.eval Y = .int k n)
    (hK : wpList P ops Q rest (a.put o.dst (.int .u8 ((Sx.digitB n).toNat : Int))) W) : wpList P ops Q (o :: rest) a W := by
  refine wpList_run hgd ?_ hK
  unfold execOp
  have hc : a.eval (.const (.string hexS)) = .string hexS := rfl
  have h0 : (0 : Int) ≤ n := Int.natCast_nonneg n
  simp [ho, hc, hY, Instr.index, asIntOf, Sem.run_bind, run_underlying ht, hexS_get n hn, h0]
end

theorem fold_push : ∀ (bs : List UInt8) (s : ByteArray), (bs.map fun x => ((x.toNat : Nat) : Int)).foldl (fun r n => r.push (UInt8.ofNat n.toNat)) s = ⟨s.data ++ bs.toArray⟩
  | [], s => by apply ByteArray.ext; simp
  | b :: bs, s => by
    show (bs.map fun x => ((x.toNat : Nat) : Int)).foldl _ (s.push (UInt8.ofNat ((b.toNat : Nat) : Int).toNat)) = _
    rw [fold_push bs]
    apply ByteArray.ext
    apply Array.ext'
    simp
theorem run_bytes {P : Program} {W : World} {t u e : TypeId} {b c n : Nat} (bs : List UInt8) (hn : bs.length = n)
    (ht : P.underlying t = some (.slice e)) (he : P.underlying e = some (.int .u8)) (hu : P.underlying u = some .string) (hr : ∀ (j : Nat) (v : Value), (bs.map fun x => Value.int .u8 ((x.toNat : Nat) : Int))[j]? = some v → W.cell? (Addr.add ⟨b, 0, none⟩ j) = some v) :
    (convert t u (.slice (some ⟨b, 0, none⟩) n c)).run P W = .ok (.string ⟨bs.toArray⟩) W := by
  subst hn
  have h1 := run_loadCells_list (P := P) (w := W) ⟨b, 0, none⟩ (bs.map fun x => Value.int .u8 ((x.toNat : Nat) : Int)) hr
  have h2 : (bs.map fun x => Value.int .u8 ((x.toNat : Nat) : Int)) = (bs.map fun x => ((x.toNat : Nat) : Int)).map (Value.int .u8) := by rw [List.map_map]; rfl
  rw [h2] at h1
  have h3 : ((bs.map fun x => ((x.toNat : Nat) : Int)).map (Value.int .u8)).length = bs.length := by simp
  rw [h3] at h1
  rw [run_convert_bytes_string W t u e _ _ _ ht he hu, run_bytesToString W _ _ c _ h1, fold_push]
  simp
theorem hex_cells {W : World} {b : Nat} {N : Nat} (h : W.rangeAt b 0 ((Sx.hexB N).map fun x => Value.int .u8 ((x.toNat : Nat) : Int))) : ∀ (j : Nat) (v : Value), ((Sx.hexB N).map fun x => Value.int .u8 ((x.toNat : Nat) : Int))[j]? = some v → W.cell? (Addr.add ⟨b, 0, none⟩ j) = some v := fun j v hv => by
  have := h j v hv
  unfold Addr.add
  by_cases hz : j = 0
  · subst hz; simpa using this
  · rw [if_neg hz]; simpa using this
theorem fdiv_nat (n m : Nat) : (n : Int).fdiv (2 ^ m) = ((n / 2 ^ m : Nat) : Int) := by
  have h : (0 : Int) ≤ 2 ^ m := Int.le_of_lt (Int.pow_pos (by decide))
  rw [Int.fdiv_eq_ediv_of_nonneg _ h, Int.natCast_ediv, Int.natCast_pow]; rfl

--## end
end Go.Proofs.Yteckjpdfecgljaa
