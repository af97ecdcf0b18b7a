--## law
/- The law FnExactSheetText: for every input the function SheetText answers as its model, and the law returns true. No condition. -/
import Derived.Test.YteckjpdfecgljaaOpen
import Derived.Test.YteckjpdfecgljaaStxD
import Derived.Test.YteckjpdfecgljaaShtE
import Derived.Test.YteckjpdfecgljaaLopn
import Derived.Test.YteckjpdfecgljaaFlw
namespace Go.Proofs.Yteckjpdfecgljaa.lawExactSheetText
open Go.Mem Go.ChangeShapes Go.WideShapes Go.ChangeAt Go.RowKit Go.Flo
open Go.ChangeMaps (open_string shut_string)
set_option linter.unusedSimpArgs false
set_option linter.unusedVariables false
set_option maxRecDepth 20000

open Go.Inv

set_option maxHeartbeats 4000000 in
theorem walk (z0 : List Int) (w : World) (q0 : Sh z0) :
    Calls Try.prog 3 #[.agg (shA z0)] w (Gives (isB true) w) := by
  have HL : Aside (z0.length = 64) := q0.1
  have HS : Aside (Sh z0) := q0
  have hl := q0.1
  clear q0
  obtain ⟨tx, htx⟩ : ∃ tx, (⟨(txt z0 64).toArray⟩ : ByteArray) = tx := ⟨_, rfl⟩
  have HT : Aside ((⟨(txt z0 64).toArray⟩ : ByteArray) = tx) := htx
  clear htx
  have HM := Mem.start w
  have tk1 : True := trivial
  go_enter Try.func3, Try.ntmps3
  go_wp2_with (first | (refine Mem.wpList_box HM rfl rfl rfl rfl ?_; clear HM; intro p1 W1 hb1 HM1a; have HM1 : Mem w W1 [] [(p1, rU z0)] := HM1a; clear HM1a) | (refine Mem.wpList_load_row HM1 64 rfl rfl rfl row_arr (.inl (.head _)) (sub_all (by rw [rU_len]; exact hl)) (by rw [rU_len]; exact hl) ?_) | (clear tk1; go_at_call 5; refine (toSheetA z0 HL.out _).mono ?_; rintro e w2 ⟨_, rfl, rfl, hb2⟩; have HM2 := HM1.call hb2; clear HM1) | (go_at_call 4; refine (SheetTextS z0 _ HS.out).mono ?_; rw [HT.out]; rintro e w3 ⟨_, rfl, rfl, hb3⟩; have HM3 := HM2.call hb3; clear HM2) | (refine Mem.wpList_load_row HM3 64 rfl rfl rfl row_arr (.inl (.head _)) (sub_all (by rw [rU_len]; exact hl)) (by rw [rU_len]; exact hl) ?_) | (go_at_call 5; refine (toSheetA z0 HL.out _).mono ?_; rintro e w4 ⟨_, rfl, rfl, hb4⟩; have HM4 := HM3.call hb4; clear HM3) | (go_at_call 6; refine (SheetTextI z0 _ HS.out).mono ?_; rw [HT.out]; rintro e w5 ⟨_, rfl, rfl, hb5⟩; have HM5 := HM4.call hb5; clear HM4))
  all_goals
    simp [bodyPost, results, Try.results3, go_sem]
    exact ⟨_, rfl, rfl, HM5.below⟩


set_option maxRecDepth 100000 in
theorem lifted (os : Os) (started : os.Started) (H : Type) (enc : TypeId × Value → H) :
    ReturnsInHanded {} Try.checked os 3 .any (Rows.fnExactSheetTextSpec.pre6 enc Try.prog Try.f3 Rows.fnExactSheetTextRow.domain false) (Rows.fnExactSheetTextSpec.post enc Try.prog Try.f3 false true false false) := by
  refine returnsInHanded_of_change (C := Try.checked) own started (by kernel_rfl) Try.func3
    (ChangeSpec.witness6 (enc := enc) (C := Try.checked) false ⟨#[], #[.agg (shA (List.replicate 64 0))], []⟩ 8 (by kernel_rfl) (by kernel_rfl) (by kernel_rfl) (by kernel_rfl)) ?_
  intro W base args ds gs before hval0 hW hcnd _
  have hval : ∀ (j : Nat) t v, Try.f3.params[j]? = some t → args[j]? = some v → Value.okWide Try.prog W .any base t v := hval0
  have hW' := hW
  obtain ⟨p, q, hA0, hV, rfl, hfz, hnd⟩ := hW
  have hA : DataW.TrodAll enc Try.prog W 0 (fun _ => true) true Try.f3.params.toList args.toList ds p := hA0
  rw [Try.params3] at hA hval
  obtain ⟨v0, vs0, d0, ds0, p0, q0, hargs, rfl, rfl, h0, r0⟩ := trodAll_cons hA
  obtain ⟨rfl, rfl, rfl⟩ := trodAll_nil r0
  obtain rfl : args = #[v0] := by cases args; simp_all
  obtain ⟨rfl, rfl⟩ := trodVars_none hV
  have k0 := h0
  have lt0 := lt_of_trod h0
  obtain ⟨z0, rfl, w0⟩ := open_sheet (hval 0 23 v0 rfl rfl) h0
  clear hA0 hval0
  refine (walk z0 W w0).mono fun e W' hq => ?_
  obtain ⟨v, rfl, rfl, bel⟩ := hq
  exact ⟨_, rfl, _, _, _, [], _, [], hW', trodAll_mk1 (shut_bool Try.underlying4 _), (trodAll_cons_mk (Below.trod laidOut (by kernel_rfl) (of_decide_eq_true (by kernel_rfl)) k0 bel lt0) trodAll_mk0), rfl, bel.frame _, fun h => by cases h⟩

theorem over : Rows.fnExactSheetTextRow.holds Try.pinned (OpenSpec.ofChange Rows.fnExactSheetTextSpec) :=
  OpenClaim.holds_of_wide 3 Try.f3 rfl rfl rfl rfl rfl rfl rfl ⟨rfl, rfl, rfl, rfl, rfl⟩ rfl rfl rfl rfl rfl (by kernel_rfl) Try.func3 (by kernel_rfl)
    (of_decide_eq_true (by kernel_rfl)) (by unfold Func.isWrapper; rw [if_neg (of_decide_eq_false (by kernel_rfl))]; exact ⟨rfl, rfl⟩)
    (fun os started H enc _ => lifted os started H enc)

theorem proved : Rows.FnExactSheetTextSaid := over

end Go.Proofs.Yteckjpdfecgljaa.lawExactSheetText
