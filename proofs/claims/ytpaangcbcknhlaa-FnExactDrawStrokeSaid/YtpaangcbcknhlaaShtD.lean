/- Contracts: DrawStrokes, both sides. -/
import Derived.Test.YtpaangcbcknhlaaShtC
import Derived.Test.YtpaangcbcknhlaaWayA
namespace Go.Proofs.Ytpaangcbcknhlaa
--## d
open Go.ChangeShapes Go.WideShapes Go.ChangeAt Go.RowKit Go.Flo Go.Mem
set_option linter.unusedSimpArgs false
set_option linter.unusedVariables false
set_option maxRecDepth 20000
--## d
def inkAll (put : List Int → Bool → Int → Int → List Int) (zs : List Int) (ss : List S5) : Nat → List Int
  | 0 => zs
  | k + 1 => strokeF put true (inkAll put zs ss k) (ss.getD k (0, 0, 0, 0, 0))
--## d
theorem inkAll_len {put : List Int → Bool → Int → Int → List Int} (hp : ∀ zs ink x y, (put zs ink x y).length = zs.length) (zs : List Int) (ss : List S5) : ∀ k, (inkAll put zs ss k).length = zs.length
  | 0 => rfl
  | k + 1 => by
    unfold inkAll
    rw [strokeF_len hp, inkAll_len hp zs ss k]
--## d
theorem put_true (zs : List Int) (x y : Int) : putS zs true x y = putI zs true x y := by
  unfold putS putI
  simp only [if_true]
--## d
theorem inkN_true (d : Int) (zs : List Int) (ms : List (Int × Int)) : ∀ k, inkN putS d true zs ms k = inkN putI d true zs ms k
  | 0 => rfl
  | k + 1 => by
    unfold inkN
    rw [inkN_true d zs ms k, put_true]
--## d
theorem inkAll_same (zs : List Int) (ss : List S5) : ∀ k, inkAll putS zs ss k = inkAll putI zs ss k
  | 0 => rfl
  | k + 1 => by
    unfold inkAll
    rw [inkAll_same zs ss k]
    unfold strokeF
    rw [inkN_true]
--## d
def drawV (zs : List Int) (ss : List S5) : Value := if codeK ss [] = 0 then .tuple #[.agg (shA (inkAll putI zs ss ss.length)), .int .i64 0] else .tuple #[.agg (shA zero64), .int .i64 (codeK ss [])]
--## d
theorem codeK_cases0 (ss : List S5) : codeK ss [] = 0 ∨ codeK ss [] = 1 ∨ codeK ss [] = 3 := by
  unfold codeK
  split
  · split <;> simp
  · simp
--## d
theorem codeK_ok0 {ss : List S5} (h : codeK ss [] = 0) : allK ss = true ∧ ss.length ≤ 60 := by
  unfold codeK at h
  cases ha : allK ss
  · rw [ha] at h; simp at h
  · rw [ha] at h
    simp [allM] at h
    exact ⟨rfl, h⟩
--## d
theorem allK_at0 {ss : List S5} {j : Nat} {s : S5} (hs : ss[j]? = some s) (h : allK ss = true) : okK s = true := by
  unfold allK at h
  rw [List.all_eq_true] at h
  exact h s (List.mem_of_getElem? hs)
--## d
theorem Mem.reord {w0 W : World} {x y b c : Nat × List Value} {l : Blocks} (h : Mem w0 W [] (x :: b :: ((y :: l) ++ [c]))) : Mem w0 W [] (x :: y :: (b :: (l ++ [c]))) := by
  refine ⟨h.below, h.old, fun z hz => h.new z (by simp at hz ⊢; rcases hz with h | h | h | h | h <;> simp [h]), ?_⟩
  have := h.apart
  simp only [List.map_cons, List.cons_append, List.nodup_cons, List.mem_cons, not_or, List.map_append] at this ⊢
  refine ⟨⟨this.1.2.1, this.1.1, this.1.2.2⟩, ⟨fun e => this.2.1.1 e.symm, this.2.2.1⟩, this.2.1.2, this.2.2.2⟩
--## d
theorem rls_nilM (w : World) (a : Option Addr) (c : Nat) : Rls 2 w (.slice a 0 c) (rM []) := ⟨a, c, rfl, fun j r hr => by simp [rM] at hr⟩
--## d
set_option maxHeartbeats 8000000 in
theorem DrawStrokesI (zs : List Int) (v : Value) (ss : List S5) (w : World) (hl : zs.length = 64) (hP : Rls 5 w v (rK ss)) (hn : ss.length ≤ 1048576) (hwf : ∀ s ∈ ss, wfK s) :
    Calls Try.prog 98 #[.agg (shA zs), v] w (Gives (fun r => r = drawV zs ss) w) := by
  have A : Aside (Rls 5 w v (rK ss) ∧ ss.length ≤ 1048576 ∧ (∀ s ∈ ss, wfK s) ∧ zs.length = 64) := ⟨hP, hn, hwf, hl⟩
  obtain ⟨a, c, rfl, _⟩ := hP
  rw [rK_len] at *
  have HV : Aside (drawV zs ss = if codeK ss [] = 0 then .tuple #[.agg (shA (inkAll putI zs ss ss.length)), .int .i64 0] else .tuple #[.agg (shA zero64), .int .i64 (codeK ss [])]) := rfl
  clear hn hwf hl
  have HM := Mem.start w
  have tk1 : True := trivial
  have hz := zero_sheet
  have hbd := build_sheet
  rcases codeK_cases0 ss with hk | hk | hk
  · obtain ⟨hall, h60⟩ := codeK_ok0 hk
    have HC : Aside (codeK ss [] = 0) := hk
    have G : Aside (allK ss = true ∧ ss.length ≤ 60) := ⟨hall, h60⟩
    rw [hk, if_pos rfl] at HV
    clear hk hall
    go_enter Try.func98, Try.ntmps98
    go_wp2_with (first | (refine Mem.wpList_box HM rfl rfl rfl rfl ?_; clear HM; intro p1 W1 hb1 HM) | (clear tk1; refine Mem.wpList_alloc HM rfl rfl hz rfl ?_; clear HM; intro p2 W2 hb2 HM; have HM1 : Aside (Mem w W2 [] [(p2, rU zero64), (p1, rU zs)]) := HM; clear HM) | (go_at_call 135; refine (checkStrokesI _ _ ss [] _ (A.out.1.below HM1.out.below) (rls_nilM _ _ _) A.out.2.1 (by simp) A.out.2.2.1).mono ?_; rintro e w' ⟨_, rfl, rfl, hb⟩; rw [HC.out]; have HM2 : Aside (Mem w w' [] [(p2, rU zero64), (p1, rU zs)]) := HM1.out.call hb; clear hb))
    clear hz hbd
    go_loopg [17] ss.length (fun k s9 wr => ∃ (i : Nat) (l : Blocks), s9 = .int .i64 i ∧ i + k = ss.length ∧ Mem w wr [] ((p1, rU (inkAll putI zs ss i)) :: (p2, rU zero64) :: l))
    · exact ⟨0, [], rfl, by omega, Mem.swap2 HM2.out⟩
    · obtain ⟨i, l, rfl, hik, hM⟩ := hrel
      have B : Aside (i + gk = ss.length ∧ Mem w wr [] ((p1, rU (inkAll putI zs ss i)) :: (p2, rU zero64) :: l)) := ⟨hik, hM⟩
      by_cases hi : i < ss.length
      · obtain ⟨s, hs⟩ : ∃ s, ss[i]? = some s := ⟨ss[i], List.getElem?_eq_getElem hi⟩
        obtain ⟨b, c', e0, hbl, hcells⟩ := A.out.1.at (rK_get hs)
        rw [rK_len] at e0
        cases e0
        have hi' : (i : Int) < (ss.length : Int) := by omega
        have hgd : ss.getD i (0, 0, 0, 0, 0) = s := by simp [List.getD_eq_getElem?_getD, hs]
        have HST : Aside (inkAll putI zs ss (i + 1) = strokeF putI true (inkAll putI zs ss i) s) := by
          show inkAll putI zs ss (i + 1) = _
          rw [← hgd]; rfl
        have HLN : Aside ((inkAll putI zs ss i).length = 64) := by
          show (inkAll putI zs ss i).length = 64
          rw [inkAll_len putI_len]; exact A.out.2.2.2
        have P0 : Aside (ss[i]? = some s ∧ wfK s ∧ okK s = true) := ⟨hs, A.out.2.2.1 s (List.mem_of_getElem? hs), allK_at0 hs G.out.1⟩
        have C : Aside ((b.add (i * 5)).block < wr.heap.size ∧ ∀ k x, [Value.int .i16 s.1, .int .i16 s.2.1, .int .i16 s.2.2.1, .int .i16 s.2.2.2.1, .int .i8 s.2.2.2.2][k]? = some x → wr.cell? ((b.add (i * 5)).add k) = some x) := ⟨Nat.lt_of_lt_of_le hbl hM.below.size, cells_later hM.below hbl hcells⟩
        clear hcells hbl hs hik hM hgd
        go_wp2_with (first
          | (refine wpList_idxR rfl rfl (by kernel_rfl) (by kernel_rfl) rfl rfl (Int.natCast_nonneg _) hi' ?_; simp only [Int.toNat_natCast])
          | (refine wpList_rowR rfl rfl (n := 5) (by kernel_rfl) rfl rfl C.out.2 ?_)
          | (go_at_call 136; refine (drawI p1 (inkAll putI zs ss i) s true w _ (B.out.2.call (below_alloc (Below.refl _ _))) HLN.out P0.out.2.2 P0.out.2.1).mono ?_; rintro e w3 ⟨rfl, bx, cx, hM3⟩; have HM3 : Aside (Mem w w3 [] ((p1, rU (strokeF putI true (inkAll putI zs ss i) s)) :: (p2, rU zero64) :: (bx :: (l ++ [cx])))) := Mem.reord hM3; clear hM3))
        obtain ⟨hik, hM⟩ := B.out
        go_roundg (gk - 1)
        · refine ⟨i + 1, _, ?_, by omega, by rw [HST.out]; exact HM3.out⟩
          first
            | (congr 1; done)
            | (congr 1; unfold wrap64; omega)
        · omega
      · have hi' : ¬ ((i : Int) < (ss.length : Int)) := by omega
        have hie : i = ss.length := by omega
        have hlen : (inkAll putI zs ss i).length = 64 := by rw [inkAll_len putI_len]; exact A.out.2.2.2
        have HM := hM
        generalize hcur : inkAll putI zs ss i = cur at *
        go_wp2_with (first | (refine Mem.wpList_load_row HM 64 rfl rfl rfl row_sheet (.inl (.head _)) (sub_all (by rw [rU_len]; exact hlen)) (by rw [rU_len]; exact hlen) ?_) | (refine wpList_store (b := p2) (off := 0) (cs := rU zero64) (vs := rU cur) HM 1 rfl rfl rfl rfl rfl rfl (by rw [rU_len, hlen]; exact info_sheet) (oneU cur) (Nat.ble_eq_true_of_le (by rw [rU_len, rU_len, hlen]; decide)) ?_; intro w3 hM3))
        have HM5 : Mem w w3 [] ((p1, rU cur) :: (p2, rU cur) :: l) := by
          have h := hM3
          rw [splice_all (by rw [rU_len, rU_len, hlen]; rfl)] at h
          exact h
        refine bodyPost_ret (Mem.results2 Try.results98 (Mem.fetch_row HM5 64 rfl row_sheet (.inl (.tail _ (.head _))) (sub_all (by rw [rU_len]; exact hlen)) (by rw [rU_len]; exact hlen)) (Mem.fetch_tmp (v := .int .i64 0) rfl)) rfl ?_
        exact ⟨_, rfl, by show _ = drawV zs ss; rw [HV.out, ← hie, hcur], HM5.below⟩
  · have HC : Aside (codeK ss [] = 1) := hk
    rw [hk, if_neg (by decide)] at HV
    clear hk
    go_enter Try.func98, Try.ntmps98
    go_wp2_with (first | (refine Mem.wpList_box HM rfl rfl rfl rfl ?_; clear HM; intro p1 W1 hb1 HM) | (clear tk1; refine Mem.wpList_alloc HM rfl rfl hz rfl ?_; clear HM; intro p2 W2 hb2 HM; have HM1 : Aside (Mem w W2 [] [(p2, rU zero64), (p1, rU zs)]) := HM; clear HM) | (go_at_call 135; refine (checkStrokesI _ _ ss [] _ (A.out.1.below HM1.out.below) (rls_nilM _ _ _) A.out.2.1 (by simp) A.out.2.2.1).mono ?_; rintro e w' ⟨_, rfl, rfl, hb⟩; rw [HC.out]; have HM2 : Aside (Mem w w' [] [(p2, rU zero64), (p1, rU zs)]) := HM1.out.call hb; clear hb) | (refine wpList_store (b := p2) (off := 0) (cs := rU zero64) (vs := rU zero64) HM2.out 0 rfl rfl rfl rfl rfl rfl info_sheet (oneU _) (by kernel_rfl) ?_; intro w3 hM3))
    have HM5 : Mem w w3 [] [(p2, rU zero64), (p1, rU zs)] := by
      have h := hM3
      rw [splice_all rfl] at h
      exact h
    refine bodyPost_ret (Mem.results2 Try.results98 (Mem.fetch_row HM5 64 rfl row_sheet (.inl (.head _)) (sub_all (by rw [rU_len]; rfl)) (by rw [rU_len]; rfl)) (Mem.fetch_tmp (v := .int .i64 1) rfl)) rfl ?_
    exact ⟨_, rfl, by show _ = drawV zs ss; rw [HV.out], HM5.below⟩
  · have HC : Aside (codeK ss [] = 3) := hk
    rw [hk, if_neg (by decide)] at HV
    clear hk
    go_enter Try.func98, Try.ntmps98
    go_wp2_with (first | (refine Mem.wpList_box HM rfl rfl rfl rfl ?_; clear HM; intro p1 W1 hb1 HM) | (clear tk1; refine Mem.wpList_alloc HM rfl rfl hz rfl ?_; clear HM; intro p2 W2 hb2 HM; have HM1 : Aside (Mem w W2 [] [(p2, rU zero64), (p1, rU zs)]) := HM; clear HM) | (go_at_call 135; refine (checkStrokesI _ _ ss [] _ (A.out.1.below HM1.out.below) (rls_nilM _ _ _) A.out.2.1 (by simp) A.out.2.2.1).mono ?_; rintro e w' ⟨_, rfl, rfl, hb⟩; rw [HC.out]; have HM2 : Aside (Mem w w' [] [(p2, rU zero64), (p1, rU zs)]) := HM1.out.call hb; clear hb) | (refine wpList_store (b := p2) (off := 0) (cs := rU zero64) (vs := rU zero64) HM2.out 0 rfl rfl rfl rfl rfl rfl info_sheet (oneU _) (by kernel_rfl) ?_; intro w3 hM3))
    have HM5 : Mem w w3 [] [(p2, rU zero64), (p1, rU zs)] := by
      have h := hM3
      rw [splice_all rfl] at h
      exact h
    refine bodyPost_ret (Mem.results2 Try.results98 (Mem.fetch_row HM5 64 rfl row_sheet (.inl (.head _)) (sub_all (by rw [rU_len]; rfl)) (by rw [rU_len]; rfl)) (Mem.fetch_tmp (v := .int .i64 3) rfl)) rfl ?_
    exact ⟨_, rfl, by show _ = drawV zs ss; rw [HV.out], HM5.below⟩
--## d
end Go.Proofs.Ytpaangcbcknhlaa
