/- Contracts: bits.OnesCount64, CountInk of both sides. -/
import Derived.Test.YtpamgilkdkpcdaaShtH
import Derived.Test.YtpamgilkdkpcdaaPop
import Derived.Test.YtpamgilkdkpcdaaPtX
namespace Go.Proofs.Ytpamgilkdkpcdaa
--## d
open Go.ChangeShapes Go.WideShapes Go.ChangeAt Go.RowKit Go.Flo Go.Mem
set_option linter.unusedSimpArgs false
set_option linter.unusedVariables false
set_option maxRecDepth 20000
--## d
def finQ (z : Int) : Int := bits BinOp.and IntKind.i64 (wrap64 z) 127
--## d
theorem finQ_nat (t : Nat) (h : t < 9223372036854775808) : finQ (t : Int) = ((t % 128 : Nat) : Int) := by
  unfold finQ
  have e : wrap64 (t : Int) = (t : Int) := by
    unfold wrap64
    omega
  rw [e]
  have hx : t &&& 127 = t % 128 := Nat.and_two_pow_sub_one_eq_mod t 7
  have hb : (BitVec.ofInt 64 (t : Int)).toNat = t := ofInt_u64 t (by omega)
  have hc : (BitVec.ofInt 64 (127 : Int)).toNat = 127 := by decide
  show IntKind.i64.wrap ((BitVec.ofInt 64 (t : Int) &&& BitVec.ofInt 64 (127 : Int)).toNat : Int) = _
  rw [BitVec.toNat_and, hb, hc, hx]
  rw [IntKind.wrap_i64]
  omega
--## d
def pcI (z : Int) : Int := (Pop.pc 64 z.toNat : Nat)
--## d
theorem popAll (z : Int) (h : 0 ≤ z ∧ z < 18446744073709551616) : finQ (Pop.q6 (Pop.q5 (Pop.q4 (Pop.q3 (Pop.q2 (Pop.q1 z)))))) = pcI z := by
  obtain ⟨n, rfl⟩ : ∃ n : Nat, z = n := ⟨z.toNat, by omega⟩
  obtain ⟨t, e, hm, ht, _⟩ := Pop.allq n (by omega)
  rw [e, finQ_nat t ht, hm]
  rfl
--## d
theorem onesC (z : Int) (w : World) (h : 0 ≤ z ∧ z < 18446744073709551616) : Calls Try.prog 13 #[.int .u64 z] w (Gives (isI (pcI z)) w) := by
  have H : Aside (finQ (Pop.q6 (Pop.q5 (Pop.q4 (Pop.q3 (Pop.q2 (Pop.q1 z)))))) = pcI z) := popAll z h
  clear h
  go_enter Try.func13, Try.ntmps13
  go_wp2_with (fail)
  simp [bodyPost, results, Try.results13, go_sem]
  exact ⟨_, rfl, congrArg (Value.int IntKind.i64) H.out, Below.refl _ _⟩
--## d
def pcSum (zs : List Int) (i : Nat) : Nat := ((zs.take i).map fun z => Pop.pc 64 z.toNat).sum
--## d
theorem pcSum_step (zs : List Int) (i : Nat) (z : Int) (hz : zs[i]? = some z) : pcSum zs (i + 1) = pcSum zs i + Pop.pc 64 z.toNat := by
  unfold pcSum
  rw [List.take_add_one, hz]
  simp
--## d
theorem pcSum_le (zs : List Int) (hs : Sh zs) (i : Nat) (hi : i ≤ 64) : pcSum zs i ≤ 64 * i := by
  induction i with
  | zero => simp [pcSum]
  | succ i ih =>
    obtain ⟨z, hz⟩ : ∃ z, zs[i]? = some z := ⟨zs[i]'(by rw [hs.1]; omega), List.getElem?_eq_getElem _⟩
    rw [pcSum_step zs i z hz]
    have := ih (by omega)
    have hb := hs.2 z (List.mem_of_getElem? hz)
    obtain ⟨t, _, _, _, hp⟩ := Pop.allq z.toNat (by omega)
    omega
--## d
theorem wpList_ixrow {o : Oper} {rest : List Oper} {ops : Array Oper} {a : Act} {W : World} {Q : Exit → Act → World → Prop} (hgd : o.guard = none) {X Y : Operand} (ho : o.op = .index 27 X Y) {zs : List Int} (hX : a.eval X = .agg (shA zs)) {i : Nat} (hY : a.eval Y = .int .i64 i) {z : Int} (hz : zs[i]? = some z) (hl : zs.length = 64)
    (hK : wpList Try.prog ops Q rest (a.put o.dst (.int .u64 z)) W) : wpList Try.prog ops Q (o :: rest) a W := by
  refine wpList_run hgd ?_ hK
  have hu : Try.prog.underlying 27 = some (.array 64 22) := Try.underlying27
  have hi : i < 64 := by
    rcases Nat.lt_or_ge i zs.length with h | h
    · omega
    · rw [List.getElem?_eq_none h] at hz; cases hz
  have h0 : (0 : Int) ≤ i := Int.natCast_nonneg i
  have hi' : (i : Int) < 64 := by omega
  have hp := run_part_u zs i z hz W
  unfold execOp
  simp [ho, hX, hY, Instr.index, asIntOf, Sem.run_bind, run_underlying hu, h0, hi', hi, hp, sizeU1]
--## d
theorem CountInkI (zs : List Int) (w : World) (hs : Sh zs) :
    Calls Try.prog 10 #[.agg (shA zs)] w (Gives (isI (pcSum zs 64 : Nat)) w) := by
  have HS : Aside (Sh zs) := hs
  have hl := hs.1
  clear hs
  have HM0 := Mem.start w
  go_enter Try.func10, Try.ntmps10
  go_wp2_with (first | (refine Mem.wpList_box HM0 rfl rfl rfl rfl ?_; clear HM0; intro p1 W1 hb1 HM1a; have HM1 : Mem w W1 [] [(p1, rU zs)] := HM1a; clear HM1a) | (refine Mem.wpList_load_row HM1 64 rfl rfl rfl row_sheet (.inl (.head _)) (sub_all (by rw [rU_len]; exact hl)) (by rw [rU_len]; exact hl) ?_))
  have HL : Aside (zs.length = 64) := hl
  clear hl
  have H1 : Aside (Mem w W1 [] [(p1, rU zs)]) := HM1
  clear HM1
  go_loopg [3, 7] 64 (fun k s3 s7 wr => ∃ (i : Nat) (c : Nat), s7 = .int .i64 i ∧ s3 = .int .i64 c ∧ c = pcSum zs i ∧ i + k = 64 ∧ Mem w wr [] [(p1, rU zs)])
  · exact ⟨0, 0, rfl, rfl, rfl, by omega, H1.out⟩
  · obtain ⟨i, c, rfl, rfl, hc, hik, hM⟩ := hrel
    have B : Aside (i + gk = 64 ∧ c = pcSum zs i ∧ Mem w wr [] [(p1, rU zs)]) := ⟨hik, hc, hM⟩
    clear hc hM
    by_cases hi : i < 64
    · obtain ⟨z, hz⟩ : ∃ z, zs[i]? = some z := ⟨zs[i]'(by have := HL.out; omega), List.getElem?_eq_getElem _⟩
      have hi' : (i : Int) < 64 := by omega
      have HZ : Aside (zs[i]? = some z) := hz
      have hz0 := HS.out.2 z (List.mem_of_getElem? hz)
      have hk := onesC z
      have HK : Aside (0 ≤ z ∧ z < 18446744073709551616) := hz0
      clear hz hz0 hik
      go_wp2_with (first | (refine wpList_ixrow rfl rfl rfl rfl HZ.out HL.out ?_) | (go_at_call 13; refine (hk _ HK.out).mono ?_; rintro e w5 ⟨_, rfl, rfl, hb5⟩))
      obtain ⟨hik, hc, hM⟩ := B.out
      have hstep := pcSum_step zs i z HZ.out
      have hle := pcSum_le zs HS.out (i + 1) (by omega)
      go_roundg (gk - 1)
      · refine ⟨i + 1, c + Pop.pc 64 z.toNat, ?_, ?_, by rw [hstep, hc], by omega, hM.call hb5⟩
        · first | (congr 1; done) | (congr 1; unfold wrap64; omega)
        · congr 1; unfold wrap64 pcI; omega
      · omega
    · have hi' : ¬ ((i : Int) < 64) := by omega
      go_wp2_with fail
      simp [bodyPost, results, Try.results10, go_sem]
      obtain ⟨hik, hc, hM⟩ := B.out
      obtain rfl : i = 64 := by omega
      exact ⟨_, rfl, by rw [hc]; rfl, hM.below⟩
--## d
def InB (k r m S : Nat) : Prop := r < 2 ^ k ∧ k ≤ 64 ∧ m + Pop.pc k r = S ∧ S ≤ 4096
--## d
theorem InB.stop {k m S : Nat} (h : InB k 0 m S) : m = S := by
  have := h.2.2.1
  rw [Pop.pc_zero] at this
  omega
--## d
theorem InB.go {k r m S : Nat} (h : InB k r m S) (hr : r ≠ 0) : 0 < k ∧ InB (k - 1) (r / 2) (m + r % 2) S ∧ r < 18446744073709551616 ∧ m + r % 2 ≤ 4096 := by
  obtain ⟨h1, h2, h3, h4⟩ := h
  cases k with
  | zero => omega
  | succ k =>
    have hp : 2 ^ (k + 1) ≤ 2 ^ 64 := Nat.pow_le_pow_right (by decide) h2
    simp only [Pop.pc] at h3
    have e : 2 ^ (k + 1) = 2 * 2 ^ k := by rw [Nat.pow_succ, Nat.mul_comm]
    refine ⟨by omega, ⟨by simp; omega, by omega, by simp; omega, h4⟩, by omega, by omega⟩
--## d
theorem and1 (r : Nat) (h : r < 18446744073709551616) : bits BinOp.and IntKind.u64 (r : Int) 1 = ((r % 2 : Nat) : Int) := by
  have := u64_and_nat r 1 h (by omega)
  rw [show bits BinOp.and IntKind.u64 (r : Int) 1 = _ from this, Nat.and_one_is_mod]
--## d
set_option maxHeartbeats 1000000 in
theorem CountInkS (zs : List Int) (w : World) (hs : Sh zs) :
    Calls Try.prog 9 #[.agg (shA zs)] w (Gives (isI (pcSum zs 64 : Nat)) w) := by
  have HS : Aside (Sh zs) := hs
  have HL : Aside (zs.length = 64) := hs.1
  clear hs
  have HM0 := Mem.start w
  go_enter Try.func9, Try.ntmps9
  go_wp2_with (first | (refine Mem.wpList_box HM0 rfl rfl rfl rfl ?_; clear HM0; intro p1 W1 hb1 HM1a; have HM1 : Mem w W1 [] [(p1, rU zs)] := HM1a; clear HM1a))
  have H1 : Aside (Mem w W1 [] [(p1, rU zs)]) := HM1
  clear HM1
  go_loopg [3, 4] 64 (fun k s3 s4 wr => ∃ (i : Nat) (c : Nat), s4 = .int .i64 i ∧ s3 = .int .i64 c ∧ c = pcSum zs i ∧ i + k = 64 ∧ Mem w wr [] [(p1, rU zs)])
  · exact ⟨0, 0, rfl, rfl, rfl, by omega, H1.out⟩
  · obtain ⟨i, c, rfl, rfl, hc, hik, hM⟩ := hrel
    have B : Aside (i + gk = 64 ∧ c = pcSum zs i ∧ Mem w wr [] [(p1, rU zs)]) := ⟨hik, hc, hM⟩
    clear hc
    by_cases hi : i < 64
    · obtain ⟨z, hz⟩ : ∃ z, zs[i]? = some z := ⟨zs[i]'(by have := HL.out; omega), List.getElem?_eq_getElem _⟩
      have hi' : (i : Int) < 64 := by omega
      have hi0 : (0 : Int) ≤ i := Int.natCast_nonneg i
      have HZ : Aside (zs[i]? = some z) := hz
      have hz0 := HS.out.2 z (List.mem_of_getElem? hz)
      obtain ⟨n, rfl⟩ : ∃ n : Nat, z = n := ⟨z.toNat, by omega⟩
      have HN : Aside (n < 18446744073709551616) := by show n < _; omega
      have hcell := (Mem.cellIn hM (.head _) i _ (rU_get hz)).1
      clear hz hz0 hik hM
      go_wp2_with fail
      have hle : Aside (pcSum zs (i + 1) ≤ 64 * (i + 1)) := pcSum_le zs HS.out (i + 1) (by omega)
      have hst : Aside (pcSum zs (i + 1) = pcSum zs i + Pop.pc 64 n) := (pcSum_step zs i _ HZ.out).trans (by rw [Int.toNat_natCast])
      go_loopg [3, 5] 64 (fun k s3 s5 wq => ∃ (r : Nat) (m : Nat), s5 = .int .u64 r ∧ s3 = .int .i64 m ∧ wq = wr ∧ InB k r m (pcSum zs (i + 1)))
      · have h1 := hle.out
        have h2 := hst.out
        have h3 := B.out.2.1
        refine ⟨n, c, rfl, rfl, rfl, ⟨HN.out, by omega, by omega, by omega⟩⟩
      · obtain ⟨r, m, rfl, rfl, rfl, hI⟩ := hrel
        have HI : Aside (InB gk r m (pcSum zs (i + 1))) := hI
        clear hI
        by_cases hr : r = 0
        · subst hr
          go_wp2_with fail
          obtain ⟨hik, hc, hM⟩ := B.out
          have hm := HI.out.stop
          go_roundg (63 - i)
          · refine ⟨i + 1, m, ?_, rfl, hm, by omega, hM⟩
            first | (congr 1; done) | (congr 1; unfold wrap64; omega)
          · omega
        · have hr' : ((r : Int) != 0) = true := by simp; omega
          have hr2 := and1 r (HI.out.go hr).2.2.1
          go_wp2_with fail
          obtain ⟨hk0, hI2, hrl, hml⟩ := HI.out.go hr
          go_roundg (gk - 1)
          · refine ⟨r / 2, m + r % 2, ?_, ?_, rfl, hI2⟩
            · first | (congr 1; done) | (congr 1; omega)
            · congr 1; unfold wrap64; omega
          · omega
    · have hi' : ¬ ((i : Int) < 64) := by omega
      clear hM
      go_wp2_with fail
      simp [bodyPost, results, Try.results9, go_sem]
      obtain ⟨hik, hc, hM⟩ := B.out
      obtain rfl : i = 64 := by omega
      exact ⟨_, rfl, by rw [hc]; rfl, hM.below⟩
--## d
end Go.Proofs.Ytpamgilkdkpcdaa
