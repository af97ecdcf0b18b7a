/- Contracts: the text of a sheet, both sides. -/
import Derived.Test.YteckjpdfecgljaaStxB
import Derived.Test.YteckjpdfecgljaaStxC
namespace Go.Proofs.Yteckjpdfecgljaa
--## d
open Go.ChangeShapes Go.WideShapes Go.ChangeAt Go.RowKit Go.Flo Go.Mem
set_option linter.unusedSimpArgs false
set_option linter.unusedVariables false
set_option maxRecDepth 20000
--## d
theorem SheetTextS (zs : List Int) (w : World) (hs : Sh zs) : Calls Try.prog 4 #[.agg (shA zs)] w (Gives (fun r => r = .string ⟨(txt zs 64).toArray⟩) w) := by
  have HS : Aside (Sh zs) := hs
  clear hs
  have HM0 := Mem.start w
  go_enter Try.func4, Try.ntmps4
  go_wp2_with (first | (refine Mem.wpList_box HM0 rfl rfl rfl rfl ?_; clear HM0; intro p1 W1 hb1 HMa; have HM1 : Mem w W1 [] [(p1, rU zs)] := HMa; clear HMa) | (go_at_call 7; refine (l06TextS p1 zs _ HS.out (fun W hW y z hz => (Mem.cellIn (HM1.call hW) (.head _) y _ (rU_get hz)).1)).mono ?_; rintro e w2 ⟨_, rfl, rfl, hb2⟩; have HM2 := HM1.call hb2; clear HM1))
  simp [bodyPost, results, Try.results4, go_sem]
  exact ⟨_, rfl, rfl, HM2.below⟩
--## d
theorem wpList_ixrow8 {o : Oper} {rest : List Oper} {ops : Array Oper} {a : Act} {W : World} {Q : Exit → Act → World → Prop} (hgd : o.guard = none) {X Y : Operand} (ho : o.op = .index 25 X Y) {zs : List Int} (hX : a.eval X = .agg (shA zs)) {i : Nat} (hY : a.eval Y = .int .i64 i) {z : Int} (hz : zs[i]? = some z) (hl : zs.length = 64)
    (hK : wpList Try.prog ops Q rest (a.put o.dst (.int .u64 z)) W) : wpList Try.prog ops Q (o :: rest) a W := by
  refine wpList_run hgd ?_ hK
  have hu : Try.prog.underlying 25 = some (.array 64 22) := Try.underlying25
  have hi : i < 64 := by
    rcases Nat.lt_or_ge i zs.length with h | h
    · omega
    · rw [List.getElem?_eq_none h] at hz; cases hz
  have h0 : (0 : Int) ≤ i := Int.natCast_nonneg i
  have hi' : (i : Int) < 64 := by omega
  have hp := run_part_u zs i z hz W
  unfold execOp
  simp [ho, hX, hY, Instr.index, asIntOf, Sem.run_bind, run_underlying hu, h0, hi', hi, hp, sizeU1]
--## d
theorem cells_snoc (l : List UInt8) (b : UInt8) : Lib.byteCells l ++ [Value.int .u8 ((b.toNat : Nat) : Int)] = Lib.byteCells (l ++ [b]) := by simp [Lib.byteCells]
--## d
set_option maxHeartbeats 4000000 in
theorem SheetTextI (zs : List Int) (w : World) (hs : Sh zs) : Calls Try.prog 6 #[.agg (shA zs)] w (Gives (fun r => r = .string ⟨(txt zs 64).toArray⟩) w) := by
  have HS : Aside (Sh zs) := hs
  have hl := hs.1
  clear hs
  have HM0 := Mem.start w
  go_enter Try.func6, Try.ntmps6
  go_wp2_with (first | (refine Mem.wpList_box HM0 rfl rfl rfl rfl ?_; clear HM0; intro p1 W1 hb1 HMa; have HM1 : Mem w W1 [] [(p1, rU zs)] := HMa; clear HMa) | (refine Mem.wpList_load_row (HM1.call (below_alloc (Below.refl _ _))) 64 rfl rfl rfl row_sheet (.inl (.head _)) (sub_all (by rw [rU_len]; exact hl)) (by rw [rU_len]; exact hl) ?_))
  have HL : Aside (zs.length = 64) := hl
  have HM : Aside (Mem w W1 [] [(p1, rU zs)]) := HM1
  have hfr := Lib.fresh_isBuilder 33 5 W1
  obtain ⟨b, hb⟩ : ∃ b, b = W1.heap.size := ⟨_, rfl⟩
  have HB0 : Aside (b = W1.heap.size) := hb
  rw [← hb] at hfr ⊢
  have HF := Lib.hid hfr
  clear hl HM1 hfr
  go_loopg [8] 64 (fun k s8 wr => ∃ (y : Nat), s8 = .int .i64 y ∧ y + k = 64 ∧ Lib.IsBuilder 33 5 b b (Lib.byteCells (txt zs y)) wr ∧ Below b W1 wr)
  · exact ⟨0, rfl, by omega, HF.out, by rw [hb]; exact below_alloc (Below.refl _ _)⟩
  · obtain ⟨y, rfl, hyk, hI, HB⟩ := hrel
    have B : Aside (y + gk = 64 ∧ Lib.IsBuilder 33 5 b b (Lib.byteCells (txt zs y)) wr ∧ Below b W1 wr) := ⟨hyk, hI, HB⟩
    clear hI HB hb
    by_cases hy : y < 64
    · obtain ⟨z, hz⟩ : ∃ z, zs[y]? = some z := ⟨zs[y]'(by rw [HL.out]; exact hy), List.getElem?_eq_getElem _⟩
      have hy' : (y : Int) < 64 := by omega
      have HZ : Aside (zs[y]? = some z ∧ 0 ≤ z ∧ z < 18446744073709551616) := ⟨hz, HS.out.2 z (List.mem_of_getElem? hz)⟩
      have HT : Aside ((txt zs y).length = 17 * y) := txt_len y (by rw [HL.out]; omega)
      clear hz hyk
      go_wp2_with (refine wpList_ixrow8 rfl rfl rfl rfl HZ.out.1 HL.out ?_)
      go_loopg [11] 16 (fun k s11 wq => ∃ (i : Nat), s11 = .int .i64 i ∧ i + k = 16 ∧ Lib.IsBuilder 33 5 b b (Lib.byteCells (txt zs y ++ hexR z i)) wq ∧ Below b W1 wq)
      · exact ⟨0, rfl, by omega, by rw [show hexR z 0 = [] from rfl, List.append_nil]; exact B.out.2.1, B.out.2.2⟩
      · obtain ⟨i, rfl, hik, hI, HB⟩ := hrel
        have D : Aside (i + gk = 16 ∧ Lib.IsBuilder 33 5 b b (Lib.byteCells (txt zs y ++ hexR z i)) wr ∧ Below b W1 wr) := ⟨hik, hI, HB⟩
        clear hI HB hik
        by_cases hi : i < 16
        · have hi' : (i : Int) < 16 := by omega
          have hi0 : (0 : Int) ≤ (i : Int) := Int.natCast_nonneg _
          have hsh : bits BinOp.and IntKind.u64 (z / 2 ^ (4 * (15 - i))) 15 = ((z.toNat / 2 ^ (4 * (15 - i)) % 16 : Nat) : Int) := and15z z _ HZ.out.2
          have hlt := dg_lt z (4 * (15 - i))
          have HD : Aside (dg z (4 * (15 - i)) = Sx.digitB (z.toNat / 2 ^ (4 * (15 - i)) % 16)) := rfl
          generalize z.toNat / 2 ^ (4 * (15 - i)) % 16 = d at *
          have hdg := hexS_get d hlt
          go_wp2_with (first | (refine wpList_at8 rfl rfl (by kernel_rfl) rfl rfl hdg ?_) | (go_at_call 8; refine (writeB b b _ _ _ D.out.2.1 (by have h1 := HT.out; simp only [Lib.byteCells, List.length_map, List.length_append, hexR_len]; omega) (by have := D.out.2.2.size; have := HB0.out; omega)).mono ?_; rintro e w4 ⟨rfl, hW4, hb4⟩; have HW4 := Lib.hid hW4; have HB4 := Lib.hid hb4; clear hW4 hb4))
          obtain ⟨hik, _⟩ := D.out
          go_roundg (gk - 1)
          · refine ⟨i + 1, ?_, by omega, ?_, D.out.2.2.trans HB4.out⟩
            · first | (congr 1; done) | (congr 1; unfold wrap64; omega)
            · rw [hexR_succ, ← List.append_assoc, HD.out, ← cells_snoc]; exact Or.inr HW4.out
          · omega
        · have hi' : ¬ ((i : Int) < 16) := by omega
          have hie : i = 16 := by have := D.out.1; omega
          subst hie
          go_wp2_with (go_at_call 8; refine (writeB b b _ 10 _ D.out.2.1 (by have h1 := HT.out; simp only [Lib.byteCells, List.length_map, List.length_append, hexR_len]; omega) (by have := D.out.2.2.size; have := HB0.out; omega)).mono ?_; rintro e w4 ⟨rfl, hW4, hb4⟩; have HW4 := Lib.hid hW4; have HB4 := Lib.hid hb4; clear hW4 hb4)
          have hrow : Lib.byteCells (txt zs y ++ hexR z 16) ++ [Value.int .u8 10] = Lib.byteCells (txt zs (y + 1)) := by
            rw [txt_succ HZ.out.1]
            simp [Lib.byteCells, rowT]
          obtain ⟨hyk, _⟩ := B.out
          go_roundg (63 - y)
          · refine ⟨y + 1, ?_, by omega, ?_, D.out.2.2.trans HB4.out⟩
            · first | (congr 1; done) | (congr 1; unfold wrap64; omega)
            · rw [← hrow]; exact Or.inr HW4.out
          · omega
    · have hy' : ¬ ((y : Int) < 64) := by omega
      have hye : y = 64 := by omega
      subst hye
      clear hyk
      go_wp2_with (go_at_call 9; refine (Try.Builder_String_any b b (txt zs 64) _ B.out.2.1 (by have := B.out.2.2.size; have := HB0.out; omega)).mono ?_; rintro e w5 ⟨rfl, hb5⟩; have HB5 := Lib.hid hb5; clear hb5)
      simp [bodyPost, results, Try.results6, go_sem]
      exact ⟨_, rfl, rfl, below_step (show Below W1.heap.size W1 w5 from by rw [← HB0.out]; exact B.out.2.2.trans HB5.out) HM.out.below⟩
--## d
end Go.Proofs.Yteckjpdfecgljaa
