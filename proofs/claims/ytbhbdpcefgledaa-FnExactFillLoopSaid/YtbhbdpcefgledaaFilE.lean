/- Contracts: FillLoop (program). -/
import Derived.Test.YtbhbdpcefgledaaFilD
namespace Go.Proofs.Ytbhbdpcefgledaa
--## d
open Go.Inv
--## d
open Go.ChangeShapes Go.WideShapes Go.ChangeAt Go.RowKit Go.Flo Go.Mem
set_option linter.unusedSimpArgs false
set_option linter.unusedVariables false
set_option maxRecDepth 20000
--## d
theorem permM {w0 W : World} {r l l2 : Blocks} (h : Mem w0 W r l) (hp : l.Perm l2) : Mem w0 W r l2 :=
  ⟨h.below, h.old, fun x hx => h.new x (hp.mem_iff.2 hx), (hp.map _).nodup_iff.1 h.apart⟩
--## d
theorem second {w0 W : World} {r L : Blocks} {a b : Nat × List Value} (h : Mem w0 W r (a :: L)) (hb : b ∈ L) : ∃ L2, Mem w0 W r (a :: b :: L2) := by
  obtain ⟨s, t, rfl⟩ := List.append_of_mem hb
  exact ⟨s ++ t, permM h (List.Perm.cons _ List.perm_middle)⟩
--## d
def codeL (ms : List (Int × Int)) : Int := if allM ms = true then (if 1 ≤ ms.length ∧ ms.length ≤ 16 then 0 else 2) else 1
--## d
def fillV (zs : List Int) (ms : List (Int × Int)) (ink : Bool) : Value := if codeL ms = 0 then .tuple #[.agg (shA (fillF putI ink (sidesL ms) zs)), .int .i64 0] else .tuple #[.agg (shA zero64), .int .i64 (codeL ms)]
--## d
theorem allM_all {ms : List (Int × Int)} (h : allM ms = true) : ∀ m ∈ ms, okM m.1 m.2 = true := by
  unfold allM at h
  exact List.all_eq_true.1 h
--## d
set_option maxHeartbeats 8000000 in
theorem FillLoopI (zs : List Int) (v : Value) (ms : List (Int × Int)) (ink : Bool) (w : World) (hl : zs.length = 64) (hP : Rls 2 w v (rM ms)) (hn : ms.length ≤ 1048576) :
    Calls Try.prog 10 #[.agg (shA zs), v, .bool ink] w (Gives (fun r => r = fillV zs ms ink) w) := by
  have A : Aside (Rls 2 w v (rM ms) ∧ ms.length ≤ 1048576 ∧ zs.length = 64) := ⟨hP, hn, hl⟩
  obtain ⟨a, c, rfl, _⟩ := hP
  rw [rM_len] at *
  have HV : Aside (fillV zs ms ink = if codeL ms = 0 then .tuple #[.agg (shA (fillF putI ink (sidesL ms) zs)), .int .i64 0] else .tuple #[.agg (shA zero64), .int .i64 (codeL ms)]) := rfl
  clear hn hl
  have HM := Mem.start w
  have tk1 : True := trivial
  have hz := zero_sheet
  have hbd := build_sheet
  have HC : codeL ms = if allM ms = true then (if 1 ≤ ms.length ∧ ms.length ≤ 16 then 0 else 2) else 1 := rfl
  cases hA : allM ms
  · rw [hA, if_neg Bool.false_ne_true] at HC
    rw [HC, if_neg (by decide)] at HV
    have HA : Aside (allM ms = false) := hA
    clear hA HC
    go_enter Try.func10, Try.ntmps10
    go_wp2_with (first | (refine Mem.wpList_box HM rfl rfl rfl rfl ?_; clear HM; intro p1 W1 hb1 HM) | (clear tk1; refine Mem.wpList_alloc HM rfl rfl hz rfl ?_; clear HM; intro p2 W2 hb2 HM; have HM1 : Aside (Mem w W2 [] [(p2, rU zero64), (p1, rU zs)]) := HM; clear HM) | (go_at_call 32; refine (validMarksA _ ms _ (A.out.1.below HM1.out.below) A.out.2.1).mono ?_; rintro e w' ⟨_, rfl, rfl, hb⟩; rw [HA.out]; have HM2 : Aside (Mem w w' [] [(p2, rU zero64), (p1, rU zs)]) := HM1.out.call hb; clear hb) | (refine wpList_store (b := p2) (off := 0) (cs := rU zero64) (vs := rU zero64) HM2.out 0 rfl rfl rfl rfl rfl rfl info_sheet (oneU _) (by kernel_rfl) ?_; intro w3 hM3))
    have HM5 : Mem w w3 [] [(p2, rU zero64), (p1, rU zs)] := by
      have h := hM3
      rw [splice_all rfl] at h
      exact h
    refine bodyPost_ret (Mem.results2 Try.results10 (Mem.fetch_row HM5 64 rfl row_sheet (.inl (.head _)) (sub_all (by rw [rU_len]; rfl)) (by rw [rU_len]; rfl)) (Mem.fetch_tmp (v := .int .i64 1) rfl)) rfl ?_
    exact ⟨_, rfl, by show _ = fillV zs ms ink; rw [HV.out], HM5.below⟩
  · rw [hA, if_pos rfl] at HC
    have H16 : Aside (∀ m ∈ ms, okM m.1 m.2 = true) := allM_all hA
    have HA : Aside (allM ms = true) := hA
    clear hA
    by_cases h1 : 1 ≤ ms.length
    · by_cases h2 : ms.length ≤ 16
      · rw [if_pos ⟨h1, h2⟩] at HC
        rw [HC, if_pos rfl] at HV
        clear HC
        have h3 : ¬ ((ms.length : Int) < 1) := by omega
        have h4 : ¬ ((16 : Int) < (ms.length : Int)) := by omega
        obtain ⟨cur, hcur⟩ : ∃ cur, fillF putI ink (sidesL ms) zs = cur := ⟨_, rfl⟩
        have HCUR : Aside (fillF putI ink (sidesL ms) zs = cur) := hcur
        have hlen : cur.length = 64 := by rw [← hcur]; unfold fillF; rw [inkS_len putI_len, gridF_len putI_len]; exact A.out.2.2
        rw [hcur] at HV
        clear hcur
        go_enter Try.func10, Try.ntmps10
        go_wp2_with (first | (refine Mem.wpList_box HM rfl rfl rfl rfl ?_; clear HM; intro p1 W1 hb1 HM) | (clear tk1; refine Mem.wpList_alloc HM rfl rfl hz rfl ?_; clear HM; intro p2 W2 hb2 HM; have HM1 : Aside (Mem w W2 [] [(p2, rU zero64), (p1, rU zs)]) := HM; clear HM) | (go_at_call 32; refine (validMarksA _ ms _ (A.out.1.below HM1.out.below) A.out.2.1).mono ?_; rintro e w' ⟨_, rfl, rfl, hb⟩; rw [HA.out]; have HM2 : Aside (Mem w w' [] [(p2, rU zero64), (p1, rU zs)]) := HM1.out.call hb; clear hb) | (go_at_call 33; go_loud (refine (fillI p1 zs _ ms ink w _ (Mem.swap2 HM2.out) A.out.2.2 (A.out.1.below HM2.out.below) h2 H16.out).mono ?_; rintro e w3 ⟨rfl, L, hM3, hL3⟩; obtain ⟨L2, hM4⟩ := second hM3 (hL3 (p2, rU zero64) (.head _)); have HM4 : Mem w w3 [] ((p1, rU cur) :: (p2, rU zero64) :: L2) := (by (have h9 := hM4; rw [HCUR.out] at h9; exact h9)); clear hM3 hL3 hM4)) | (refine Mem.wpList_load_row HM4 64 rfl rfl rfl row_sheet (.inl (.head _)) (sub_all (by rw [rU_len]; exact hlen)) (by rw [rU_len]; exact hlen) ?_) | (refine wpList_store (b := p2) (off := 0) (cs := rU zero64) (vs := rU cur) HM4 1 rfl rfl rfl rfl rfl rfl (by rw [rU_len, hlen]; exact info_sheet) (oneU cur) (Nat.ble_eq_true_of_le (by rw [rU_len, rU_len, hlen]; decide)) ?_; intro w4 hM4))
        have HM5 : Mem w w4 [] ((p1, rU cur) :: (p2, rU cur) :: L2) := by
          have h := hM4
          rw [splice_all (by rw [rU_len, rU_len, hlen]; rfl)] at h
          exact h
        refine bodyPost_ret (Mem.results2 Try.results10 (Mem.fetch_row HM5 64 rfl row_sheet (.inl (.tail _ (.head _))) (sub_all (by rw [rU_len]; exact hlen)) (by rw [rU_len]; exact hlen)) (Mem.fetch_tmp (v := .int .i64 0) rfl)) rfl ?_
        exact ⟨_, rfl, by show _ = fillV zs ms ink; rw [HV.out], HM5.below⟩
      · rw [if_neg (by omega)] at HC
        rw [HC, if_neg (by decide)] at HV
        clear HC
        have h3 : ¬ ((ms.length : Int) < 1) := by omega
        have h4 : (16 : Int) < (ms.length : Int) := by omega
        go_enter Try.func10, Try.ntmps10
        go_wp2_with (first | (refine Mem.wpList_box HM rfl rfl rfl rfl ?_; clear HM; intro p1 W1 hb1 HM) | (clear tk1; refine Mem.wpList_alloc HM rfl rfl hz rfl ?_; clear HM; intro p2 W2 hb2 HM; have HM1 : Aside (Mem w W2 [] [(p2, rU zero64), (p1, rU zs)]) := HM; clear HM) | (go_at_call 32; refine (validMarksA _ ms _ (A.out.1.below HM1.out.below) A.out.2.1).mono ?_; rintro e w' ⟨_, rfl, rfl, hb⟩; rw [HA.out]; have HM2 : Aside (Mem w w' [] [(p2, rU zero64), (p1, rU zs)]) := HM1.out.call hb; clear hb) | (refine wpList_store (b := p2) (off := 0) (cs := rU zero64) (vs := rU zero64) HM2.out 0 rfl rfl rfl rfl rfl rfl info_sheet (oneU _) (by kernel_rfl) ?_; intro w3 hM3))
        have HM5 : Mem w w3 [] [(p2, rU zero64), (p1, rU zs)] := by
          have h := hM3
          rw [splice_all rfl] at h
          exact h
        refine bodyPost_ret (Mem.results2 Try.results10 (Mem.fetch_row HM5 64 rfl row_sheet (.inl (.head _)) (sub_all (by rw [rU_len]; rfl)) (by rw [rU_len]; rfl)) (Mem.fetch_tmp (v := .int .i64 2) rfl)) rfl ?_
        exact ⟨_, rfl, by show _ = fillV zs ms ink; rw [HV.out], HM5.below⟩
    · rw [if_neg (by omega)] at HC
      rw [HC, if_neg (by decide)] at HV
      clear HC
      have h3 : (ms.length : Int) < 1 := by omega
      go_enter Try.func10, Try.ntmps10
      go_wp2_with (first | (refine Mem.wpList_box HM rfl rfl rfl rfl ?_; clear HM; intro p1 W1 hb1 HM) | (clear tk1; refine Mem.wpList_alloc HM rfl rfl hz rfl ?_; clear HM; intro p2 W2 hb2 HM; have HM1 : Aside (Mem w W2 [] [(p2, rU zero64), (p1, rU zs)]) := HM; clear HM) | (go_at_call 32; refine (validMarksA _ ms _ (A.out.1.below HM1.out.below) A.out.2.1).mono ?_; rintro e w' ⟨_, rfl, rfl, hb⟩; rw [HA.out]; have HM2 : Aside (Mem w w' [] [(p2, rU zero64), (p1, rU zs)]) := HM1.out.call hb; clear hb) | (refine wpList_store (b := p2) (off := 0) (cs := rU zero64) (vs := rU zero64) HM2.out 0 rfl rfl rfl rfl rfl rfl info_sheet (oneU _) (by kernel_rfl) ?_; intro w3 hM3))
      have HM5 : Mem w w3 [] [(p2, rU zero64), (p1, rU zs)] := by
        have h := hM3
        rw [splice_all rfl] at h
        exact h
      refine bodyPost_ret (Mem.results2 Try.results10 (Mem.fetch_row HM5 64 rfl row_sheet (.inl (.head _)) (sub_all (by rw [rU_len]; rfl)) (by rw [rU_len]; rfl)) (Mem.fetch_tmp (v := .int .i64 2) rfl)) rfl ?_
      exact ⟨_, rfl, by show _ = fillV zs ms ink; rw [HV.out], HM5.below⟩
--## d
end Go.Proofs.Ytbhbdpcefgledaa
