--## law
/- The law FnExactFillLoop: for every input the function FillLoop answers as its model, and the law returns true. No condition. -/
import Derived.Test.YtbhbdpcefgledaaOpen
import Derived.Test.YtbhbdpcefgledaaFilG
import Derived.Test.YtbhbdpcefgledaaFilH
import Derived.Test.YtbhbdpcefgledaaShtE
import Derived.Test.YtbhbdpcefgledaaLopn
import Derived.Test.YtbhbdpcefgledaaLskB
namespace Go.Proofs.Ytbhbdpcefgledaa.lawExactFillLoop
open Go.Mem Go.ChangeShapes Go.WideShapes Go.ChangeAt Go.RowKit Go.Flo
open Go.ChangeMaps (open_string shut_string)
set_option linter.unusedSimpArgs false
set_option linter.unusedVariables false
set_option maxRecDepth 20000

theorem rlsM {w0 W : World} {l : Blocks} {g : Nat} {ss : List (Int × Int)} (HM : Mem w0 W [] l) (hk : (g, (rM ss).flatten) ∈ l) : Rls 2 W (.slice (some ⟨g, 0, none⟩) ss.length ss.length) (rM ss) := by
  have h := rls_flat (rs := rM ss) rM_row HM hk
  rw [rM_len] at h
  exact h

set_option maxHeartbeats 4000000 in
theorem walk (z0 : List Int) (v1 : Value) (z1 : List (Int × Int)) (x2 : Bool) (w : World) (q0 : Sh z0) (hP1 : Rls 2 w v1 (rM z1)) (f1 : ∀ s ∈ z1, I16 s.1 ∧ I16 s.2) (l1 : z1.length < 2 ^ 63) :
    Calls Try.prog 3 #[.agg (shA z0), v1, .bool x2] w (Gives (isB true) w) := by
  have A : Aside (Rls 2 w v1 (rM z1) ∧ z0.length = 64 ∧ (∀ s ∈ z1, I16 s.1 ∧ I16 s.2) ∧ Sh z0) := ⟨hP1, q0.1, f1, q0⟩
  obtain ⟨a1, c1, rfl, _⟩ := hP1
  rw [rM_len] at *
  have tk0 : True := trivial
  have tk1 : True := trivial
  have tk2 : True := trivial
  have tk3 : True := trivial
  have tk4 : True := trivial
  have tk5 : True := trivial
  have tk6 : True := trivial
  have tk7 : True := trivial
  have tk8 : True := trivial
  have HM0 := Mem.start w
  have hz := zero_sheet
  by_cases h0 : (z1.length : Int) ≤ 1048576
  · have hn : z1.length ≤ 1048576 := by omega
    have hx : ¬ ((1048576 : Int) - (z1.length : Int) < 0) := by omega
    obtain ⟨rz, rc, hrl, hV⟩ : ∃ (rz : List Int) (rc : Int), rz.length = 64 ∧ fillV z0 z1 x2 = .tuple #[.agg (shA rz), .int .i64 rc] := by
      unfold fillV
      split
      · exact ⟨_, _, by unfold fillF; rw [inkS_len putI_len, gridF_len putI_len]; exact A.out.2.1, rfl⟩
      · exact ⟨_, _, rfl, rfl⟩
    have HV : Aside (fillV z0 z1 x2 = .tuple #[.agg (shA rz), .int .i64 rc]) := hV
    clear hV f1 q0
    go_enter Try.func3, Try.ntmps3
    go_wp2_with (first | (clear tk0; refine Mem.wpList_box HM0 rfl rfl rfl rfl ?_; clear HM0; intro p1 W1 hb1 HM1) | (go_at_call 6; refine (szMarkSA _ z1 _ _ (A.out.1.below HM1.below) l1 (by omega)).mono ?_; rintro e w2 ⟨_, rfl, rfl, hb2⟩; rw [if_pos h0]; have HM2 : Mem w w2 [] [(p1, rU z0)] := HM1.call hb2; clear HM1) | (clear tk1; refine Mem.wpList_load_row HM2 64 rfl rfl rfl row_arr (.inl (.head _)) (sub_all (by rw [rU_len]; exact A.out.2.1)) (by rw [rU_len]; exact A.out.2.1) ?_) | (clear tk2; go_at_call 8; refine (toSheetA z0 A.out.2.1 _).mono ?_; rintro e w3 ⟨_, rfl, rfl, hb3⟩; have HM3 : Mem w w3 [] [(p1, rU z0)] := HM2.call hb3; clear HM2) | (clear tk3; go_at_call 9; refine (toMarkSA _ z1 _ (A.out.1.below HM3.below) hn).mono ?_; rintro e w4 ⟨rfl, hM4⟩; have HM4 : Mem w w4 [] [(p1, rU z0), (w3.heap.size, (rM z1).flatten)] := Mem.joinG HM3 hM4; clear HM3 hM4) | (go_at_call 7; refine (FillLoopS z0 _ z1 x2 _ A.out.2.2.2 (rlsM HM4 (.tail _ (.head _))) hn A.out.2.2.1).mono ?_; rintro e w5 ⟨_, rfl, rfl, hb5⟩; rw [HV.out]; have HM5 : Mem w w5 [] [(p1, rU z0), (w3.heap.size, (rM z1).flatten)] := HM4.call hb5; clear HM4) | (clear tk4; refine Mem.wpList_alloc HM5 rfl rfl hz rfl ?_; clear HM5; intro pA W6 hbA HM6) | (clear tk5; refine wpList_store (off := 0) (cs := rU zero64) (vs := rU rz) HM6 0 rfl rfl rfl rfl rfl rfl (by rw [rU_len, hrl]; exact info_sheet) (oneU rz) (Nat.ble_eq_true_of_le (by rw [rU_len, rU_len, hrl]; decide)) ?_; clear HM6; intro w7 hM7; rw [splice_all (by rw [rU_len, rU_len, hrl]; rfl)] at hM7; have HM7 : Mem w w7 [] [(pA, rU rz), (p1, rU z0), (w3.heap.size, (rM z1).flatten)] := hM7; clear hM7) | (clear tk6; go_at_call 9; refine (toMarkSA _ z1 _ (A.out.1.below HM7.below) hn).mono ?_; rintro e w8 ⟨rfl, hM8⟩; have HM8 : Mem w w8 [] [(pA, rU rz), (p1, rU z0), (w3.heap.size, (rM z1).flatten), (w7.heap.size, (rM z1).flatten)] := Mem.joinG HM7 hM8; clear HM7 hM8) | (clear tk7; refine Mem.wpList_load_row HM8 64 rfl rfl rfl row_arr (.inl (.tail _ (.head _))) (sub_all (by rw [rU_len]; exact A.out.2.1)) (by rw [rU_len]; exact A.out.2.1) ?_) | (go_at_call 8; refine (toSheetA z0 A.out.2.1 _).mono ?_; rintro e w9 ⟨_, rfl, rfl, hb9⟩; have HM9 : Mem w w9 [] [(pA, rU rz), (p1, rU z0), (w3.heap.size, (rM z1).flatten), (w7.heap.size, (rM z1).flatten)] := HM8.call hb9; clear HM8) | (go_at_call 10; refine (FillLoopI z0 _ z1 x2 _ A.out.2.1 (rlsM HM9 (.tail _ (.tail _ (.tail _ (.head _))))) hn).mono ?_; rintro e w10 ⟨_, rfl, rfl, hb10⟩; rw [HV.out]; have HM10 : Mem w w10 [] [(pA, rU rz), (p1, rU z0), (w3.heap.size, (rM z1).flatten), (w7.heap.size, (rM z1).flatten)] := HM9.call hb10; clear HM9) | (refine Mem.wpList_alloc HM10 rfl rfl hz rfl ?_; clear HM10; intro pB W11 hbB HM11) | (refine wpList_store (off := 0) (cs := rU zero64) (vs := rU rz) HM11 0 rfl rfl rfl rfl rfl rfl (by rw [rU_len, hrl]; exact info_sheet) (oneU rz) (Nat.ble_eq_true_of_le (by rw [rU_len, rU_len, hrl]; decide)) ?_; clear HM11; intro w12 hM12; rw [splice_all (by rw [rU_len, rU_len, hrl]; rfl)] at hM12; have HM12 : Mem w w12 [] [(pB, rU rz), (pA, rU rz), (p1, rU z0), (w3.heap.size, (rM z1).flatten), (w7.heap.size, (rM z1).flatten)] := hM12; clear hM12) | (clear tk8; refine Mem.wpList_load_row HM12 64 rfl rfl rfl row_sheet (.inl (.head _)) (sub_all (by rw [rU_len]; exact hrl)) (by rw [rU_len]; exact hrl) ?_) | (refine Mem.wpList_load_row HM12 64 rfl rfl rfl row_sheet (.inl (.tail _ (.head _))) (sub_all (by rw [rU_len]; exact hrl)) (by rw [rU_len]; exact hrl) ?_) | (go_at_call 11; refine (eqSheetA rz hrl _).mono ?_; rintro e w13 ⟨_, rfl, rfl, hb13⟩; have HM13 : Mem w w13 [] [(pB, rU rz), (pA, rU rz), (p1, rU z0), (w3.heap.size, (rM z1).flatten), (w7.heap.size, (rM z1).flatten)] := HM12.call hb13; clear HM12) | (go_at_call 9; refine (toMarkSA _ z1 _ (A.out.1.below HM13.below) hn).mono ?_; rintro e w14 ⟨rfl, hM14⟩; have HM14 : Mem w w14 [] [(pB, rU rz), (pA, rU rz), (p1, rU z0), (w3.heap.size, (rM z1).flatten), (w7.heap.size, (rM z1).flatten), (w13.heap.size, (rM z1).flatten)] := Mem.joinG HM13 hM14; clear HM13 hM14) | (go_at_call 12; refine (eqMarkSA _ _ z1 _ (rlsM HM14 (.tail _ (.tail _ (.tail _ (.tail _ (.head _)))))) (rlsM HM14 (.tail _ (.tail _ (.tail _ (.tail _ (.tail _ (.head _))))))) hn).mono ?_; rintro e w15 ⟨_, rfl, rfl, hb15⟩; have HM15 := HM14.call hb15; clear HM14))
    all_goals
      simp [bodyPost, results, Try.results3, go_sem]
      exact ⟨_, rfl, rfl, HM15.below⟩
  · have hx : ((1048576 : Int) - (z1.length : Int) < 0) := by omega
    go_enter Try.func3, Try.ntmps3
    go_wp2_with (first | (clear tk0; refine Mem.wpList_box HM0 rfl rfl rfl rfl ?_; clear HM0; intro p1 W1 hb1 HM1) | (go_at_call 6; refine (szMarkSA _ z1 _ _ (A.out.1.below HM1.below) l1 (by omega)).mono ?_; rintro e w2 ⟨_, rfl, rfl, hb2⟩; rw [if_neg h0]; have HM2 : Mem w w2 [] [(p1, rU z0)] := HM1.call hb2; clear HM1))
    all_goals
      simp [bodyPost, results, Try.results3, go_sem]
      exact ⟨_, rfl, rfl, HM2.below⟩


set_option maxRecDepth 100000 in
theorem lifted (os : Os) (started : os.Started) (H : Type) (enc : TypeId × Value → H) :
    ReturnsInHanded {} Try.checked os 3 .any (Rows.fnExactFillLoopSpec.pre6 enc Try.prog Try.f3 Rows.fnExactFillLoopRow.domain false) (Rows.fnExactFillLoopSpec.post enc Try.prog Try.f3 false true false false) := by
  refine returnsInHanded_of_change (C := Try.checked) own started (by kernel_rfl) Try.func3
    (ChangeSpec.witness6 (enc := enc) (C := Try.checked) false ⟨#[], #[.agg (shA (List.replicate 64 0)), .slice none 0 0, .bool false], []⟩ 8 (by kernel_rfl) (by kernel_rfl) (by kernel_rfl) (by kernel_rfl)) ?_
  intro W base args ds gs before hval0 hW hcnd _
  have hval : ∀ (j : Nat) t v, Try.f3.params[j]? = some t → args[j]? = some v → Value.okWide Try.prog W .any base t v := hval0
  have hW' := hW
  obtain ⟨p, q, hA0, hV, rfl, hfz, hnd⟩ := hW
  have hA : DataW.TrodAll enc Try.prog W 0 (fun _ => true) true Try.f3.params.toList args.toList ds p := hA0
  rw [Try.params3] at hA hval
  obtain ⟨v0, vs0, d0, ds0, p0, q0, hargs, rfl, rfl, h0, r0⟩ := trodAll_cons hA
  obtain ⟨v1, vs1, d1, ds1, p1, q1, rfl, rfl, rfl, h1, r1⟩ := trodAll_cons r0
  obtain ⟨v2, vs2, d2, ds2, p2, q2, rfl, rfl, rfl, h2, r2⟩ := trodAll_cons r1
  obtain ⟨rfl, rfl, rfl⟩ := trodAll_nil r2
  obtain rfl : args = #[v0, v1, v2] := by cases args; simp_all
  obtain ⟨rfl, rfl⟩ := trodVars_none hV
  have k0 := h0
  have lt0 := lt_of_trod h0
  obtain ⟨z0, rfl, w0⟩ := open_sheet (hval 0 23 v0 rfl rfl) h0
  have k1 := h1
  have lt1 := lt_of_trod h1
  obtain ⟨z1, hP1, f1, l1⟩ := open_marks (hval 1 24 v1 rfl rfl) h1
  have k2 := h2
  have lt2 := lt_of_trod h2
  obtain ⟨x2, rfl, rfl, rfl⟩ := open_bool Try.underlying4 (hval 2 4 v2 rfl rfl) h2
  clear hA0 hval0
  refine (walk z0 v1 z1 x2 W w0 hP1 f1 (Nat.lt_of_le_of_lt l1 (by decide))).mono fun e W' hq => ?_
  obtain ⟨v, rfl, rfl, bel⟩ := hq
  exact ⟨_, rfl, _, _, _, [], _, [], hW', trodAll_mk1 (shut_bool Try.underlying4 _), (trodAll_cons_mk (Below.trod laidOut (by kernel_rfl) (of_decide_eq_true (by kernel_rfl)) k0 bel lt0) (trodAll_cons_mk (Below.trod laidOut (by kernel_rfl) (of_decide_eq_true (by kernel_rfl)) k1 bel lt1) (trodAll_cons_mk (Below.trod laidOut (by kernel_rfl) (of_decide_eq_true (by kernel_rfl)) k2 bel lt2) trodAll_mk0))), rfl, bel.frame _, fun h => by cases h⟩

theorem over : Rows.fnExactFillLoopRow.holds Try.pinned (OpenSpec.ofChange Rows.fnExactFillLoopSpec) :=
  OpenClaim.holds_of_wide 3 Try.f3 rfl rfl rfl rfl rfl rfl rfl ⟨rfl, rfl, rfl, rfl, rfl⟩ rfl rfl rfl rfl rfl (by kernel_rfl) Try.func3 (by kernel_rfl)
    (of_decide_eq_true (by kernel_rfl)) (by unfold Func.isWrapper; rw [if_neg (of_decide_eq_false (by kernel_rfl))]; exact ⟨rfl, rfl⟩)
    (fun os started H enc _ => lifted os started H enc)

theorem proved : Rows.FnExactFillLoopSaid := over

end Go.Proofs.Ytbhbdpcefgledaa.lawExactFillLoop
