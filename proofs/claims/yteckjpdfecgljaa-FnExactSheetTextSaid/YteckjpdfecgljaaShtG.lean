/- Contracts: HasInk, both sides. -/
import Derived.Test.YteckjpdfecgljaaShtE
import Derived.Deep.RegionHeld3
import Derived.Laws.BitsAllLaws
namespace Go.Proofs.Yteckjpdfecgljaa
--## d
open Go.ChangeShapes Go.WideShapes Go.ChangeAt Go.RowKit Go.Flo Go.Mem
set_option linter.unusedSimpArgs false
set_option linter.unusedVariables false
set_option maxRecDepth 20000
--## d
theorem run_part_u (zs : List Int) (i : Nat) (z : Int) (hz : zs[i]? = some z) (w : World) : (part 22 (shA zs) i).run Try.prog w = .ok (.int .u64 z) w := by
  have h70 : Try.prog.underlying 22 = some (.int .u64) := Try.underlying22
  unfold part
  simp [isAgg, Sem.run_bind, run_underlying h70, TypeDesc.isRow]
  rw [rU_get hz]
  rfl
--## d
theorem sizeU1 (w : World) : (sizeOf 22).run Try.prog w = .ok 1 w := by kernel_rfl
--## d
theorem eq_list (zs ys : List Int) (d : Nat) : ∀ (l : List Nat) (w : World), (∀ i ∈ l, i < zs.length ∧ i < ys.length) → (forIn l ((none : Option Bool), ()) fun i __s => do
              let __do_lift ← part 22 (shA zs) (i * 1)
              let __do_lift_1 ← part 22 (shA ys) (i * 1)
              let __do_lift ← Op.equalIn (d + 1) 22 __do_lift __do_lift_1
              if (!__do_lift) = true then pure (ForInStep.done (some false, ())) else pure (ForInStep.yield (none, ()))).run Try.prog w = .ok (if l.all (fun i => zs.getD i 0 == ys.getD i 0) then (none, ()) else (some false, ())) w := by
  intro l
  induction l with
  | nil => intro w _; simp
  | cons i l ih =>
    intro w h
    obtain ⟨h1, h2⟩ := h i (by simp)
    have hih := ih w (fun j hj => h j (by simp [hj]))
    simp only [Nat.mul_one] at hih
    simp only [List.forIn_cons, Sem.run_bind, Nat.mul_one]
    rw [run_part_u zs i _ (List.getElem?_eq_getElem h1)]
    simp only [Result.andThen_ok]
    rw [run_part_u ys i _ (List.getElem?_eq_getElem h2)]
    simp only [Result.andThen_ok]
    rw [run_equalIn_int (k' := .u64) _ _ _ _ _ _ Try.underlying22]
    simp only [Result.andThen_ok]
    have e1 : zs.getD i 0 = zs[i] := by simp [List.getD_eq_getElem?_getD, h1]
    have e2 : ys.getD i 0 = ys[i] := by simp [List.getD_eq_getElem?_getD, h2]
    cases hq : (zs[i] == ys[i])
    · simp only [Bool.not_false, if_true, Sem.run_pure, Result.andThen_ok, List.all_cons, e1, e2, hq, Bool.false_and, Bool.false_eq_true, if_false]
    · simp only [Bool.not_true, Bool.false_eq_true, if_false, Sem.run_pure, Result.andThen_ok]
      rw [hih, List.all_cons, e1, e2, hq, Bool.true_and]
--## d
theorem all_eq {zs ys : List Int} (hz : zs.length = 64) (hy : ys.length = 64) : (List.range' 0 64 1).all (fun i => zs.getD i 0 == ys.getD i 0) = decide (zs = ys) := by
  rw [Bool.eq_iff_iff]
  simp only [List.all_eq_true, decide_eq_true_eq]
  constructor
  · intro h
    apply List.ext_getElem?
    intro i
    by_cases hi : i < 64
    · have := h i (by simp; omega)
      simp [List.getD_eq_getElem?_getD, List.getElem?_eq_getElem (show i < zs.length by omega), List.getElem?_eq_getElem (show i < ys.length by omega)] at this ⊢
      exact this
    · rw [List.getElem?_eq_none (by omega), List.getElem?_eq_none (by omega)]
  · rintro rfl i _
    simp
--## d
theorem run_equalIn_sheet (zs ys : List Int) (hz : zs.length = 64) (hy : ys.length = 64) (d : Nat) (w : World) : (Op.equalIn (d + 1 + 1) 25 (.agg (shA zs)) (.agg (shA ys))).run Try.prog w = .ok (decide (zs = ys)) w := by
  have hu : Try.prog.underlying 25 = some (.array 64 22) := Try.underlying25
  rw [Op.equalIn]
  simp only [Sem.run_bind, run_underlying hu, Result.andThen_ok, sizeU1]
  rw [Std.Legacy.Range.forIn_eq_forIn_range']
  have h := eq_list zs ys d (List.range' 0 64 1) w (fun i hi => by simp at hi; omega)
  rw [show ([:64] : Std.Legacy.Range).start = 0 from rfl, show ([:64] : Std.Legacy.Range).size = 64 from rfl, show ([:64] : Std.Legacy.Range).step = 1 from rfl, h, all_eq hz hy]
  by_cases he : zs = ys
  · simp [he, Sem.run_pure]
  · simp [he, Sem.run_pure]
--## d
theorem two_pow_lt {x : Nat} (h : x < 64) : 2 ^ x < 18446744073709551616 := Nat.pow_lt_pow_right (by decide) h
--## d
theorem wrapU (x : Nat) (h : x < 64) : IntKind.u64.wrap (2 ^ x) = ((2 ^ x : Nat) : Int) := by
  have h2 := two_pow_lt h
  have e : ((2 : Int) ^ x) = ((2 ^ x : Nat) : Int) := by simp
  rw [e]
  generalize 2 ^ x = p at *
  unfold IntKind.wrap
  simp [IntKind.signed, IntKind.bits]
  omega
--## d
theorem testBit_compl (x i : Nat) (h : x < 64) : (18446744073709551615 - 2 ^ x).testBit i = (decide (i < 64) && !decide (i = x)) := by
  have h2 := two_pow_lt h
  have := Nat.testBit_two_pow_sub_succ (n := 64) (x := 2 ^ x) h2 i
  rw [show (2 : Nat) ^ 64 - (2 ^ x + 1) = 18446744073709551615 - 2 ^ x by omega] at this
  rw [this, Nat.testBit_two_pow]
  rw [show decide (x = i) = decide (i = x) from by rw [Bool.eq_iff_iff]; simp; exact eq_comm]
--## d
theorem testBit_high {z i : Nat} (hz : z < 18446744073709551616) (hi : 64 ≤ i) : z.testBit i = false :=
  Nat.testBit_lt_two_pow (Nat.lt_of_lt_of_le hz (Nat.pow_le_pow_right (n := 2) (by decide) hi))
--## d
theorem clr_nat (z x : Nat) (hz : z < 18446744073709551616) (h : x < 64) : (z ||| 2 ^ x) ^^^ 2 ^ x = z &&& (18446744073709551615 - 2 ^ x) := by
  apply Nat.eq_of_testBit_eq
  intro i
  rw [Nat.testBit_xor, Nat.testBit_or, Nat.testBit_and, testBit_compl x i h, Nat.testBit_two_pow]
  by_cases hi : i < 64
  · by_cases hx : x = i
    · subst hx; simp
    · have : ¬ i = x := fun e => hx e.symm
      simp [hi, hx, this]
  · rw [testBit_high hz (by omega)]
    have : ¬ x = i := by omega
    simp [this]
--## d
theorem clr_ne (z x : Nat) (hz : z < 18446744073709551616) (h : x < 64) : (z &&& (18446744073709551615 - 2 ^ x) = z) ↔ z.testBit x = false := by
  constructor
  · intro e
    rw [← e, Nat.testBit_and, testBit_compl x x h]
    simp
  · intro e
    apply Nat.eq_of_testBit_eq
    intro i
    rw [Nat.testBit_and, testBit_compl x i h]
    by_cases hi : i < 64
    · by_cases hx : i = x
      · subst hx; rw [e]; rfl
      · simp [hi, hx]
    · rw [testBit_high hz (by omega)]; rfl
--## d
theorem clrI_eq (z : Int) (x : Nat) (hz : 0 ≤ z ∧ z < 18446744073709551616) (h : x < 64) : clrI z x = ((z.toNat &&& (18446744073709551615 - 2 ^ x) : Nat) : Int) := by
  have h2 := two_pow_lt h
  unfold clrI
  rw [wrapU x h]
  generalize 2 ^ x = p at *
  rw [u64_andNot z _ hz.1 hz.2 (by omega) (by omega), Int.toNat_natCast]
--## d
theorem clr_same (z : Int) (x : Nat) (hz : 0 ≤ z ∧ z < 18446744073709551616) (h : x < 64) : clrS z x = clrI z x := by
  have h2 := two_pow_lt h
  have hzn : z.toNat < 18446744073709551616 := by omega
  rw [clrI_eq z x hz h]
  unfold clrS setB
  have h3 : z.toNat ||| 2 ^ x < 18446744073709551616 := Nat.or_lt_two_pow (n := 64) hzn h2
  have h4 := clr_nat _ _ hzn h
  rw [wrapU x h]
  generalize 2 ^ x = p at *
  rw [u64_or z _ hz.1 hz.2 (by omega) (by omega), Int.toNat_natCast, u64_xor_nat _ _ h3 h2, h4]
--## d
def inkB (zs : List Int) (x y : Int) : Bool := onF x y && (zs.getD y.toNat 0).toNat.testBit x.toNat
--## d
theorem put_ne {zs : List Int} (hs : Sh zs) (x y : Int) : (!decide (putI zs false x y = zs)) = inkB zs x y := by
  unfold putI inkB
  cases ho : onF x y
  · simp
  · obtain ⟨a, b, rfl, rfl, ha, hb⟩ := onF_true ho
    obtain ⟨z, hz⟩ : ∃ z, zs[b]? = some z := ⟨zs[b]'(by rw [hs.1]; exact hb), List.getElem?_eq_getElem _⟩
    have e : zs.getD b 0 = z := by simp [List.getD_eq_getElem?_getD, hz]
    have hzb := hs.2 z (List.mem_of_getElem? hz)
    simp only [if_true, Int.toNat_natCast, e, Bool.false_eq_true, if_false, Bool.true_and]
    have h1 : (zs.set b (clrI z a) = zs) ↔ clrI z a = z := by
      constructor
      · intro h
        have h3 : (zs.set b (clrI z a))[b]? = zs[b]? := by rw [h]
        rw [List.getElem?_set_self (by rw [hs.1]; exact hb), hz] at h3
        exact Option.some.inj h3
      · intro h
        rw [h]
        apply List.ext_getElem?
        intro i
        rw [List.getElem?_set]
        by_cases hi : b = i
        · subst hi
          rw [if_pos rfl, hz, if_pos (by rw [hs.1]; exact hb)]
        · rw [if_neg hi]
    have h2 : clrI z a = z ↔ z.toNat.testBit a = false := by
      rw [clrI_eq z a hzb ha, ← clr_ne z.toNat a (by omega) ha]
      omega
    rw [Bool.eq_iff_iff]
    simp only [Bool.not_eq_true', decide_eq_false_iff_not, h1, h2]
    cases z.toNat.testBit a <;> simp
--## d
end Go.Proofs.Yteckjpdfecgljaa
