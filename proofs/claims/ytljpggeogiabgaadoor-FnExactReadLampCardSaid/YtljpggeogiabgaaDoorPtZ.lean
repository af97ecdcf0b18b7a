/- Contracts: numbers are read from their texts. -/
import Derived.Test.YtljpggeogiabgaaDoorPtX
import Derived.Deep.LoopGhost
namespace Go.Proofs.YtljpggeogiabgaaDoor
open Go.RowKit Go.Flo
set_option linter.unusedSimpArgs false
set_option linter.unusedVariables false
def digV (c : UInt8) : Option Nat := if 48 ≤ c.toNat ∧ c.toNat ≤ 57 then some (c.toNat - 48) else if 97 ≤ c.toNat ∧ c.toNat ≤ 102 then some (c.toNat - 87) else none
def idxI (c : UInt8) : Int := match digV c with | some d => (d : Int) | none => -1
set_option maxRecDepth 100000 in
theorem idx_find (c : UInt8) : (match (List.range hexS.size).find? (fun i => hexS[i]! == c) with | some i => (i : Int) | none => -1) = idxI c := by
  have h : ∀ n : Fin 256, (match (List.range hexS.size).find? (fun i => hexS[i]! == UInt8.ofNat n.val) with | some i => (i : Int) | none => -1) = idxI (UInt8.ofNat n.val) := of_decide_eq_true (by kernel_rfl)
  have := h ⟨c.toNat, c.toNat_lt⟩
  simpa using this
theorem digV_lt {c : UInt8} {d : Nat} (h : digV c = some d) : d < 16 := by
  unfold digV at h
  split at h
  · cases h; omega
  · split at h
    · cases h; omega
    · cases h

def readL : List UInt8 → Nat → Option Nat
  | [], n => some n
  | c :: l, n => match digV c with | none => none | some d => readL l (16 * n + d)
def resV (s : ByteArray) : Option Nat := if s.size = 8 then (match readL s.data.toList 0 with | some n => if bitsV (kcv .f32 n) = n then some n else none | none => none) else none
def isR (o : Option Nat) (v : Value) : Prop := match o with | some n => v = .tuple #[.float .f32 n, .int .i64 0] | none => v = .tuple #[.float .f32 0, .int .i64 5]
theorem eight {s : ByteArray} (h : s.size = 8) : ∃ b0 b1 b2 b3 b4 b5 b6 b7, s = ⟨#[b0, b1, b2, b3, b4, b5, b6, b7]⟩ := by
  obtain ⟨⟨l⟩⟩ := s
  match l, h with
  | [b0, b1, b2, b3, b4, b5, b6, b7], _ => exact ⟨b0, b1, b2, b3, b4, b5, b6, b7, rfl⟩
section
variable {P : Program} {ops : Array Oper} {rest : List Oper} {o : Oper} {a : Act} {W : World} {Q : Exit → Act → World → Prop}
theorem wpList_at (hgd : o.guard = none) {t : TypeId} {X Y : Operand} (ho : o.op = .index t X Y) (ht : P.underlying t = some .string) {s : ByteArray} (hX : a.eval X = .string s) {k : IntKind} {i : Int} (hY : a.eval Y = .int k i) (h0 : 0 ≤ i) {b : UInt8} (hs : s[i.toNat]? = some b)
    (hK : wpList P ops Q rest (a.put o.dst (.int .u8 ((b.toNat : Nat) : Int))) W) : wpList P ops Q (o :: rest) a W := by
  refine wpList_run hgd ?_ hK
  unfold execOp
  simp [ho, hX, hY, Instr.index, asIntOf, Sem.run_bind, run_underlying ht, hs, h0]
theorem wpList_shl4 (hgd : o.guard = none) {t s : TypeId} {X Y : Operand} (ho : o.op = .binOp .shl t X Y s) {k : IntKind} {n : Int} (hX : a.eval X = .int .u32 n) (hY : a.eval Y = .int k 4) (h0 : 0 ≤ n) (h1 : n < 268435456)
    (hK : wpList P ops Q rest (a.put o.dst (.int .u32 (n * 16))) W) : wpList P ops Q (o :: rest) a W := by
  refine wpList_run hgd ?_ hK
  unfold execOp
  have hw : IntKind.u32.wrap (n * 2 ^ (min (4 : Int).toNat IntKind.u32.bits)) = n * 16 := by
    have : min (4 : Int).toNat IntKind.u32.bits = 4 := by decide
    rw [this]
    unfold IntKind.wrap
    simp [IntKind.bits, IntKind.signed]
    omega
  have hg : (eqGuard .shl t X Y (.int .u32 n) (.int k 4)).run P W = .ok () W := rfl
  have hb : (binOp .shl t (.int .u32 n) (.int k 4)).run P W = .ok (.int .u32 (n * 16)) W := by
    show (Op.shift .shl .u32 n k 4).run P W = _
    unfold Op.shift
    rw [if_neg (by decide)]
    simp only [hw]; rfl
  simp only [ho, hX, hY, Sem.run_bind, hg, hb, Result.andThen_ok]; rfl
theorem wpList_cvu (hgd : o.guard = none) {t u : TypeId} {X : Operand} (ho : o.op = .convert t u X) (ht : (P.underlying t).isSome = true) (hu : P.underlying u = some (.int .u32)) {k : IntKind} {d : Int} (hX : a.eval X = .int k d) (h0 : 0 ≤ d) (h1 : d < 4294967296)
    (hK : wpList P ops Q rest (a.put o.dst (.int .u32 d)) W) : wpList P ops Q (o :: rest) a W := by
  refine wpList_run hgd ?_ hK
  obtain ⟨td, htd⟩ := Option.isSome_iff_exists.1 ht
  have hw : IntKind.u32.wrap d = d := by
    unfold IntKind.wrap
    simp [IntKind.bits, IntKind.signed]
    omega
  unfold execOp
  simp only [ho, hX, Sem.run_bind, convert, run_underlying htd, run_underlying hu, Result.andThen_ok]
  cases td <;> simp [Conv.intToInt, hw]
theorem or16 (n d : Nat) (hd : d < 16) (hn : n * 16 + d < 4294967296) : IntKind.u32.wrap ((BitVec.ofInt IntKind.u32.bits ((n * 16 : Nat) : Int) ||| BitVec.ofInt IntKind.u32.bits (d : Int)).toNat : Int) = ((n * 16 + d : Nat) : Int) := by
  have key : ((BitVec.ofInt 32 ((n * 16 : Nat) : Int) ||| BitVec.ofInt 32 (d : Int)).toNat) = n * 16 + d := by
    have h1 : BitVec.ofInt 32 ((n * 16 : Nat) : Int) = BitVec.ofNat 32 (n * 16) := by rw [BitVec.ofInt_natCast]
    have h2 : BitVec.ofInt 32 (d : Int) = BitVec.ofNat 32 d := by rw [BitVec.ofInt_natCast]
    rw [h1, h2, BitVec.toNat_or, BitVec.toNat_ofNat, BitVec.toNat_ofNat]
    rw [Nat.mod_eq_of_lt (by omega), Nat.mod_eq_of_lt (by omega)]
    have := Nat.two_pow_add_eq_or_of_lt (i := 4) (b := d) (by omega) n
    rw [show (2 : Nat) ^ 4 = 16 from rfl, Nat.mul_comm] at this
    omega
  show IntKind.u32.wrap (((BitVec.ofInt 32 ((n * 16 : Nat) : Int) ||| BitVec.ofInt 32 (d : Int)).toNat : Nat) : Int) = _
  rw [key]
  unfold IntKind.wrap
  simp [IntKind.bits, IntKind.signed]
  omega
theorem wpList_or16 (hgd : o.guard = none) {t s : TypeId} {X Y : Operand} (ho : o.op = .binOp .or t X Y s) {n d : Int} (hX : a.eval X = .int .u32 (n * 16)) (hY : a.eval Y = .int .u32 d) (h0 : 0 ≤ n) (h1 : n < 268435456) (h2 : 0 ≤ d) (h3 : d < 16)
    (hK : wpList P ops Q rest (a.put o.dst (.int .u32 (n * 16 + d))) W) : wpList P ops Q (o :: rest) a W := by
  refine wpList_run hgd ?_ hK
  obtain ⟨n', rfl⟩ := Int.eq_ofNat_of_zero_le h0
  obtain ⟨d', rfl⟩ := Int.eq_ofNat_of_zero_le h2
  unfold execOp
  have hg : (eqGuard .or t X Y (.int .u32 ((n' : Int) * 16)) (.int .u32 (d' : Int))).run P W = .ok () W := rfl
  have hb : (binOp .or t (.int .u32 ((n' : Int) * 16)) (.int .u32 (d' : Int))).run P W = .ok (.int .u32 ((n' : Int) * 16 + (d' : Int))) W := by
    simp only [binOp, Op.intBits]
    rw [if_neg (by simp)]
    have := or16 n' d' (by omega) (by omega)
    rw [Int.natCast_add, Int.natCast_mul] at this
    show Sem.run P (pure (Value.int IntKind.u32 (IntKind.u32.wrap _))) W = _
    rw [show ((16 : Nat) : Int) = 16 from rfl] at this
    rw [this]; rfl
  simp only [ho, hX, hY, Sem.run_bind, hg, hb, Result.andThen_ok]; rfl
end

theorem or_hex {N d : Nat} (h1 : N < 268435456) (h2 : d < 16) : bits .or .u32 ((N : Int) * 16 % 4294967296) (d : Int) = ((16 * N + d : Nat) : Int) := by
  have e : (N : Int) * 16 % 4294967296 = ((N * 16 : Nat) : Int) := by rw [Int.natCast_mul]; omega
  rw [e, u32_or_nat _ _ (by omega) (by omega)]
  have := Nat.two_pow_add_eq_or_of_lt (i := 4) (b := d) (by omega) N
  rw [show (2 : Nat) ^ 4 = 16 from rfl, Nat.mul_comm] at this
  congr 1; omega
theorem at_byte {s : ByteArray} (hs : s.data.toList.length = 8) {i : Nat} (hi : i < 8) : ∃ b, s[i]? = some b ∧ s.data.toList.drop i = b :: s.data.toList.drop (i + 1) := by
  refine ⟨s.data.toList[i]'(by omega), ?_, List.drop_eq_getElem_cons (by omega)⟩
  have h1 : i < s.size := by
    have : s.size = s.data.toList.length := rfl
    omega
  rw [getElem?_pos s i h1]
  rfl
theorem pow_lt8 {N i : Nat} (hN : N < 16 ^ i) (hi : i < 8) : N < 268435456 := Nat.lt_of_lt_of_le hN (Nat.le_trans (Nat.pow_le_pow_right (by omega) (show i ≤ 7 by omega)) (by decide))
theorem pow_step {N d i : Nat} (hN : N < 16 ^ i) (hd : d < 16) : 16 * N + d < 16 ^ (i + 1) := by rw [Nat.pow_succ]; omega
theorem read_step {b : UInt8} {d N : Nat} {l : List UInt8} (h : digV b = some d) : readL (b :: l) N = readL l (16 * N + d) := by rw [readL.eq_2, h]
theorem read_none {b : UInt8} {N : Nat} {l : List UInt8} (h : digV b = none) : readL (b :: l) N = none := by rw [readL.eq_2, h]
theorem res_none {s : ByteArray} (h : readL s.data.toList 0 = none) : resV s = none := by unfold resV; rw [h]; split <;> rfl
theorem res_long {s : ByteArray} (h : ¬ s.size = 8) : resV s = none := by unfold resV; rw [if_neg h]
theorem res_bad {s : ByteArray} {N : Nat} (hs : s.size = 8) (h : readL s.data.toList 0 = some N) (hb : ¬ bitsV (kcv .f32 N) = N) : resV s = none := by unfold resV; rw [if_pos hs, h]; simp only; rw [if_neg hb]
theorem res_good {s : ByteArray} {N : Nat} (hs : s.size = 8) (h : readL s.data.toList 0 = some N) (hb : bitsV (kcv .f32 N) = N) : resV s = some N := by unfold resV; rw [if_pos hs, h]; simp only; rw [if_pos hb]
--## idx 63 29
theorem idx_run (c : UInt8) (w : World) : (callFunc 63 #[.string hexS, .int .u8 ((c.toNat : Nat) : Int)]).run Tryd.prog w = .ok (.value (.int .i64 (idxI c))) w := by
  rw [run_callFunc_extern Tryd.func63 (e := Extern.BytealgIndexByte.indexByte) (by kernel_rfl) (by kernel_rfl) (by kernel_rfl) (by kernel_rfl)]
  have e : Extern.BytealgIndexByte.indexByte #[.string hexS, .int .u8 ((c.toNat : Nat) : Int)] = (do
      let b ← Extern.Bytes.bytesOf (.string hexS)
      let c ← Extern.Bytes.asByte (.int .u8 ((c.toNat : Nat) : Int))
      match (List.range b.size).find? (fun i => b[i]! == c) with
      | some i => pure (goInt i)
      | none => pure (goInt (-1))) := rfl
  rw [e, ← idx_find c]
  have h1 : ((c.toNat : Nat) : Int).toNat.toUInt8 = c := by simp
  simp only [Extern.Bytes.bytesOf, Extern.Bytes.asByte, Sem.run_bind, Sem.run_pure, Result.andThen_ok, h1]
  cases (List.range hexS.size).find? (fun i => hexS[i]! == c) <;> rfl
set_option maxHeartbeats 400000 in
theorem IndexByte_any (c : UInt8) (w : World) : Calls Tryd.prog 29 #[.string hexS, .int .u8 ((c.toNat : Nat) : Int)] w (fun e w' => e = .returned (.int .i64 (idxI c)) ∧ w' = w) := by
  have h := idx_run c
  go_enter Tryd.func29, Tryd.ntmps29
  go_wp2
  simp [bodyPost, results, Tryd.results29, go_sem]
--## from32 30
theorem from32 (b : Int) (w : World) : (callFunc 30 #[.int .u32 b]).run Tryd.prog w = .ok (.value (.float .f32 b.toNat)) w := by
  rw [run_callFunc_extern Tryd.func30 (e := Extern.MathFloatBits.float32frombits) (by kernel_rfl) (by kernel_rfl) (by kernel_rfl) (by kernel_rfl)]; rfl

--## l01Read 24 41
def isL (s : ByteArray) (v : Value) : Prop := ∃ a b, v = .tuple #[.float .f32 a, .bool b] ∧ ((b = true ∧ resV s = some a) ∨ (b = false ∧ resV s = none))
set_option maxRecDepth 20000 in
set_option maxHeartbeats 4000000 in
theorem l01Read_any (s : ByteArray) (w : World) :
    Calls Tryd.prog 24 #[.string s] w (Gives (isL s) w) := by
  have hfr := from32
  by_cases hs : s.size = 8
  rotate_left
  · have hs' : ¬ ((s.size : Int) = 8) := by omega
    go_enter Tryd.func24, Tryd.ntmps24
    go_wp2_with fail
    all_goals first
      | (exfalso; omega)
      | (simp [bodyPost, results, Tryd.results24, go_sem]
         exact ⟨_, rfl, ⟨0, false, rfl, .inr ⟨rfl, res_long hs⟩⟩, Below.refl _ _⟩)
  have hsl : s.data.toList.length = 8 := hs
  go_enter Tryd.func24, Tryd.ntmps24
  go_wp2_with fail
  go_loopg [4, 5] 8 (fun k s4 s5 wr => ∃ i N : Nat, s5 = .int .i64 i ∧ s4 = .int .u32 N ∧ i + k = 8 ∧ N < 16 ^ i ∧ readL (s.data.toList.drop i) N = readL s.data.toList 0 ∧ wr = w)
  · exact ⟨0, 0, rfl, rfl, rfl, by decide, rfl, rfl⟩
  · obtain ⟨i, N, rfl, rfl, hik, hN, hR, rfl⟩ := hrel
    have A : Aside (i + gk = 8 ∧ N < 16 ^ i ∧ readL (s.data.toList.drop i) N = readL s.data.toList 0) := ⟨hik, hN, hR⟩
    clear hik hN hR
    by_cases hi : i < 8
    · obtain ⟨b, eb, hdrop⟩ := at_byte hsl hi
      have B : Aside (s.data.toList.drop i = b :: s.data.toList.drop (i + 1)) := hdrop
      clear hdrop
      have hi' : (i : Int) < 8 := by omega
      go_wp2_with (first | (refine wpList_at rfl rfl (by kernel_rfl) rfl rfl (Int.natCast_nonneg _) (by simpa using eb) ?_))
      all_goals
        obtain ⟨hik, hN, hR⟩ := A.out
        have hdrop := B.out
        rw [hdrop] at hR
      · have hd : digV b = some (b.toNat - 48) := by unfold digV; rw [if_pos (by omega)]
        rw [read_step hd] at hR
        go_roundg (gk - 1)
        · have := pow_lt8 hN hi
          refine ⟨i + 1, 16 * N + (b.toNat - 48), ?_, ?_, by omega, pow_step hN (digV_lt hd), hR, rfl⟩ <;> (congr 1 <;> omega)
        · omega
      · have hd : digV b = some (b.toNat - 87) := by unfold digV; rw [if_neg (by omega), if_pos (by omega)]
        rw [read_step hd] at hR
        go_roundg (gk - 1)
        · have := pow_lt8 hN hi
          refine ⟨i + 1, 16 * N + (b.toNat - 87), ?_, ?_, by omega, pow_step hN (digV_lt hd), hR, rfl⟩ <;> (congr 1 <;> omega)
        · omega
      all_goals
        have hd : digV b = none := by unfold digV; rw [if_neg (by omega), if_neg (by omega)]
        rw [read_none hd] at hR
        simp [bodyPost, results, Tryd.results24, go_sem]
        exact ⟨_, rfl, ⟨_, _, rfl, .inr ⟨rfl, res_none hR.symm⟩⟩, Below.refl _ _⟩
    · have hi' : ¬ ((i : Int) < 8) := by omega
      obtain ⟨hik, hN, hR⟩ := A.out
      obtain rfl : i = 8 := by omega
      have hR' : readL s.data.toList 0 = some N := by
        rw [← hR, List.drop_eq_nil_of_le (by omega)]; rfl
      clear hR A hik hN
      go_wp2_with (first | (go_at_call 41; refine (l01Bits_any _ _).mono ?_; rintro e w' ⟨_, rfl, rfl, rfl⟩))
      simp [bodyPost, results, Tryd.results24, go_sem]
      refine ⟨_, rfl, ⟨_, _, rfl, ?_⟩, Below.refl _ _⟩
      by_cases hb : bitsV (kcv .f32 N) = N
      · exact .inl ⟨by rw [hb]; simp, res_good hs hR' hb⟩
      · exact .inr ⟨by simp; omega, res_bad hs hR' hb⟩

--## ReadNumberI 15 31 29
set_option maxRecDepth 20000 in
set_option maxHeartbeats 4000000 in
theorem ReadNumberI (s : ByteArray) (w : World) : Calls Tryd.prog 15 #[.string s] w (Gives (isR (resV s)) w) := by
  have hfr := from32
  by_cases hs : s.size = 8
  rotate_left
  · have hs' : ¬ ((s.size : Int) = 8) := by omega
    go_enter Tryd.func15, Tryd.ntmps15
    go_wp2_with fail
    all_goals first
      | (exfalso; omega)
      | (simp [bodyPost, results, Tryd.results15, go_sem]
         exact ⟨_, rfl, by rw [res_long hs]; rfl, Below.refl _ _⟩)
  have hsl : s.data.toList.length = 8 := hs
  go_enter Tryd.func15, Tryd.ntmps15
  go_wp2_with fail
  go_loopg [4, 13] 8 (fun k s4 s13 wr => ∃ i N : Nat, s13 = .int .i64 i ∧ s4 = .int .u32 N ∧ i + k = 8 ∧ N < 16 ^ i ∧ readL (s.data.toList.drop i) N = readL s.data.toList 0 ∧ wr = w)
  · exact ⟨0, 0, rfl, rfl, rfl, by decide, rfl, rfl⟩
  · obtain ⟨i, N, rfl, rfl, hik, hN, hR, rfl⟩ := hrel
    have A : Aside (i + gk = 8 ∧ N < 16 ^ i ∧ readL (s.data.toList.drop i) N = readL s.data.toList 0) := ⟨hik, hN, hR⟩
    by_cases hi : i < 8
    · obtain ⟨b, eb, hdrop⟩ := at_byte hsl hi
      have B : Aside (s.data.toList.drop i = b :: s.data.toList.drop (i + 1)) := hdrop
      clear hdrop
      have hi' : (i : Int) < 8 := by omega
      have hN2 := pow_lt8 hN hi
      cases hd : digV b with
      | none =>
        have hx : idxI b = -1 := by unfold idxI; rw [hd]
        have D := Lib.hid hd
        clear hik hN hR hd hN2
        go_wp2_with (first | (refine wpList_at rfl rfl (by kernel_rfl) rfl rfl (Int.natCast_nonneg _) (by simpa using eb) ?_) | (go_at_call 29; refine (IndexByte_any _ _).mono ?_; rintro e w' ⟨rfl, rfl⟩; rw [hx]))
        obtain ⟨hik, hN, hR⟩ := A.out
        rw [B.out, read_none D.out] at hR
        simp [bodyPost, results, Tryd.results15, go_sem]
        exact ⟨_, rfl, by rw [res_none hR.symm]; rfl, Below.refl _ _⟩
      | some d =>
        have hx : idxI b = (d : Int) := by unfold idxI; rw [hd]
        have hd16 := digV_lt hd
        have ho := or_hex hN2 hd16
        have hdn : ¬ ((d : Int) < 0) := by omega
        have D : Aside (digV b = some d ∧ d < 16) := ⟨hd, hd16⟩
        clear hik hN hR hd hN2 hd16
        go_wp2_with (first | (refine wpList_at rfl rfl (by kernel_rfl) rfl rfl (Int.natCast_nonneg _) (by simpa using eb) ?_) | (go_at_call 29; refine (IndexByte_any _ _).mono ?_; rintro e w' ⟨rfl, rfl⟩; rw [hx]) | (refine wpList_cvu rfl rfl (by kernel_rfl) (by kernel_rfl) rfl (by have := D.out.2; omega) (by have := D.out.2; omega) ?_))
        obtain ⟨hik, hN, hR⟩ := A.out
        obtain ⟨hd, hd16⟩ := D.out
        rw [B.out, read_step hd] at hR
        go_roundg (gk - 1)
        · refine ⟨i + 1, 16 * N + d, ?_, ?_, by omega, pow_step hN hd16, hR, rfl⟩ <;> (congr 1 <;> omega)
        · omega
    · have hi' : ¬ ((i : Int) < 8) := by omega
      obtain rfl : i = 8 := by omega
      have hR' : readL s.data.toList 0 = some N := by
        rw [← hR, List.drop_eq_nil_of_le (by omega)]; rfl
      clear hR A hik hN
      by_cases hb : bitsV (kcv .f32 N) = N
      · have hb' : (((bitsV (kcv .f32 N) : Nat) : Int)) = (N : Int) := by rw [hb]
        go_wp2_with (first | (go_at_call 31; refine (bitsOf_any _ _).mono ?_; rintro e w' ⟨_, n, rfl, rfl, rfl⟩; rw [hb]))
        simp [bodyPost, results, Tryd.results15, go_sem]
        exact ⟨_, rfl, by rw [res_good hs hR' hb]; rfl, below_drewN (Below.refl _ _) _⟩
      · have hb' : ¬ (((bitsV (kcv .f32 N) : Nat) : Int)) = (N : Int) := by omega
        go_wp2_with (first | (go_at_call 31; refine (bitsOf_any _ _).mono ?_; rintro e w' ⟨_, n, rfl, rfl, rfl⟩))
        simp [bodyPost, results, Tryd.results15, go_sem]
        exact ⟨_, rfl, by rw [res_bad hs hR' hb]; rfl, below_drewN (Below.refl _ _) _⟩
--## end
end Go.Proofs.YtljpggeogiabgaaDoor
