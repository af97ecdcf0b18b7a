/- Contracts: DrawStroke, both sides. -/
import Derived.Test.YtpaangcbcknhlaaShtD
namespace Go.Proofs.Ytpaangcbcknhlaa
--## d
open Go.ChangeShapes Go.WideShapes Go.ChangeAt Go.RowKit Go.Flo Go.Mem
set_option linter.unusedSimpArgs false
set_option linter.unusedVariables false
set_option maxRecDepth 20000
--## d
theorem codeK_one (s : S5) : codeK [s] [] = if okK s then 0 else 1 := by
  unfold codeK allK allM
  cases h : okK s <;> simp [h]
--## d
theorem drawV_one (zs : List Int) (s : S5) : drawV zs [s] = if okK s then .tuple #[.agg (shA (strokeF putS true zs s)), .int .i64 0] else .tuple #[.agg (shA zero64), .int .i64 1] := by
  unfold drawV
  rw [codeK_one]
  cases h : okK s
  · simp
  · simp only [if_true]
    rw [← inkAll_same]
    rfl
--## d
theorem rls_oneK {w0 W : World} {l : Blocks} {g : Nat} {s : S5} {r : Blocks} (HM : Mem w0 W r l) (hk : (g, (rK [s]).flatten) ∈ l) (c : Nat) : Rls 5 W (.slice (some ⟨g, 0, none⟩) 1 c) (rK [s]) := by
  obtain ⟨hg, hl, hr, _⟩ := HM.new (g, (rK [s]).flatten) hk
  refine ⟨some ⟨g, 0, none⟩, c, rfl, fun j q hq => ⟨⟨g, 0, none⟩, rfl, hl, fun k x hx => ?_⟩⟩
  rw [Addr.add_mid, Addr.add_mid, show 0 + j * 5 + k = 0 + (j * 5 + k) by omega]
  exact hr _ _ (flatten_get j rK_row hq k x hx)
--## d
theorem Mem.rev3 {w0 W : World} {x y z : Nat × List Value} (h : Mem w0 W [] [x, y, z]) : Mem w0 W [] [z, y, x] := by
  refine ⟨h.below, h.old, fun a ha => h.new a (by simp at ha ⊢; rcases ha with h | h | h <;> simp [h]), ?_⟩
  have := h.apart
  simp only [List.map_cons, List.map_nil, List.nodup_cons, List.mem_cons, not_or, List.not_mem_nil, not_false_eq_true, List.nodup_nil, and_true] at this ⊢
  exact ⟨⟨fun e => this.2 e.symm, fun e => this.1.2 e.symm⟩, fun e => this.1.1 e.symm⟩
--## d
set_option maxHeartbeats 4000000 in
theorem DrawStrokeS (zs : List Int) (s : S5) (w : World) (hl : zs.length = 64) (hwf : wfK s) :
    Calls Try.prog 38 #[.agg (shA zs), st s.1 s.2.1 s.2.2.1 s.2.2.2.1 s.2.2.2.2] w (Gives (fun r => r = drawV zs [s]) w) := by
  have HV : Aside (drawV zs [s] = if okK s then .tuple #[.agg (shA (strokeF putS true zs s)), .int .i64 0] else .tuple #[.agg (shA zero64), .int .i64 1]) := drawV_one zs s
  have HM0 := Mem.start w
  have tk0 : True := trivial
  have hz := zero_sheet
  have hbd := build_sheet
  cases hq : okK s
  · have HQ : Aside (okS s.1 s.2.1 s.2.2.1 s.2.2.2.1 s.2.2.2.2 = false) := hq
    rw [hq] at HV
    clear hq
    go_enter Try.func38, Try.ntmps38
    go_wp2_with (first | (clear tk0; refine Mem.wpList_box HM0 rfl rfl rfl rfl ?_; clear HM0; intro p1 W1 hb1 HM1) | (refine Mem.wpList_box HM1 rfl rfl rfl rfl ?_; clear HM1; intro p2 W2 hb2 HM2a; have HM2 : Mem w W2 [] [(p2, [Value.int .i16 s.1, .int .i16 s.2.1, .int .i16 s.2.2.1, .int .i16 s.2.2.2.1, .int .i8 s.2.2.2.2]), (p1, rU zs)] := HM2a; clear HM2a) | (refine Mem.wpList_alloc HM2 rfl rfl hz rfl ?_; clear HM2; intro p3 W3 hb3 HM3a; have HM3 : Mem w W3 [] [(p3, rU zero64), (p2, [Value.int .i16 s.1, .int .i16 s.2.1, .int .i16 s.2.2.1, .int .i16 s.2.2.2.1, .int .i8 s.2.2.2.2]), (p1, rU zs)] := HM3a; clear HM3a) | (go_at_call 96; refine (l06OkP _ s.1 s.2.1 s.2.2.1 s.2.2.2.1 s.2.2.2.2 _ hwf.1 hwf.2.1 hwf.2.2.1 hwf.2.2.2.1 (Mem.cellIn HM3 (.tail _ (.head _)) 0 _ rfl).1 (Mem.cellIn HM3 (.tail _ (.head _)) 1 _ rfl).1 (Mem.cellIn HM3 (.tail _ (.head _)) 2 _ rfl).1 (Mem.cellIn HM3 (.tail _ (.head _)) 3 _ rfl).1 (Mem.cellIn HM3 (.tail _ (.head _)) 4 _ rfl).1 (HM3.new _ (.tail _ (.head _))).2.1).mono ?_; rintro e w4 ⟨_, rfl, rfl, hb4⟩; rw [HQ.out]; have HM4 : Mem w w4 [] [(p3, rU zero64), (p2, [Value.int .i16 s.1, .int .i16 s.2.1, .int .i16 s.2.2.1, .int .i16 s.2.2.2.1, .int .i8 s.2.2.2.2]), (p1, rU zs)] := HM3.call hb4; clear HM3) | (refine wpList_store (b := p3) (off := 0) (cs := rU zero64) (vs := rU zero64) HM4 0 rfl rfl rfl rfl rfl rfl info_sheet (oneU _) (by kernel_rfl) ?_; intro w6 hM6))
    have HM6 : Mem w w6 [] [(p3, rU zero64), (p2, [Value.int .i16 s.1, .int .i16 s.2.1, .int .i16 s.2.2.1, .int .i16 s.2.2.2.1, .int .i8 s.2.2.2.2]), (p1, rU zs)] := by
      have h := hM6
      rw [splice_all rfl] at h
      exact h
    refine bodyPost_ret (Mem.results2 Try.results38 (Mem.fetch_row HM6 64 rfl row_sheet (.inl (.head _)) (sub_all (by rw [rU_len]; rfl)) (by rw [rU_len]; rfl)) (Mem.fetch_tmp (v := .int .i64 1) rfl)) rfl ?_
    exact ⟨_, rfl, by show _ = drawV zs [s]; rw [HV.out]; rfl, HM6.below⟩
  · have HQ2 : Aside (okK s = true) := hq
    have HQ : Aside (okS s.1 s.2.1 s.2.2.1 s.2.2.2.1 s.2.2.2.2 = true) := hq
    rw [hq] at HV
    clear hq
    have hlen : (strokeF putS true zs s).length = 64 := by rw [strokeF_len putS_len]; exact hl
    go_enter Try.func38, Try.ntmps38
    go_wp2_with (first | (clear tk0; refine Mem.wpList_box HM0 rfl rfl rfl rfl ?_; clear HM0; intro p1 W1 hb1 HM1) | (refine Mem.wpList_box HM1 rfl rfl rfl rfl ?_; clear HM1; intro p2 W2 hb2 HM2a; have HM2 : Mem w W2 [] [(p2, [Value.int .i16 s.1, .int .i16 s.2.1, .int .i16 s.2.2.1, .int .i16 s.2.2.2.1, .int .i8 s.2.2.2.2]), (p1, rU zs)] := HM2a; clear HM2a) | (refine Mem.wpList_alloc HM2 rfl rfl hz rfl ?_; clear HM2; intro p3 W3 hb3 HM3a; have HM3 : Mem w W3 [] [(p3, rU zero64), (p2, [Value.int .i16 s.1, .int .i16 s.2.1, .int .i16 s.2.2.1, .int .i16 s.2.2.2.1, .int .i8 s.2.2.2.2]), (p1, rU zs)] := HM3a; clear HM3a) | (go_at_call 96; refine (l06OkP _ s.1 s.2.1 s.2.2.1 s.2.2.2.1 s.2.2.2.2 _ hwf.1 hwf.2.1 hwf.2.2.1 hwf.2.2.2.1 (Mem.cellIn HM3 (.tail _ (.head _)) 0 _ rfl).1 (Mem.cellIn HM3 (.tail _ (.head _)) 1 _ rfl).1 (Mem.cellIn HM3 (.tail _ (.head _)) 2 _ rfl).1 (Mem.cellIn HM3 (.tail _ (.head _)) 3 _ rfl).1 (Mem.cellIn HM3 (.tail _ (.head _)) 4 _ rfl).1 (HM3.new _ (.tail _ (.head _))).2.1).mono ?_; rintro e w4 ⟨_, rfl, rfl, hb4⟩; rw [HQ.out]; have HM4 : Mem w w4 [] [(p3, rU zero64), (p2, [Value.int .i16 s.1, .int .i16 s.2.1, .int .i16 s.2.2.1, .int .i16 s.2.2.2.1, .int .i8 s.2.2.2.2]), (p1, rU zs)] := HM3.call hb4; clear HM3) | (go_at_call 97; refine (l06StrokeG p1 zs _ s w _ (l := [(p2, [Value.int .i16 s.1, .int .i16 s.2.1, .int .i16 s.2.2.1, .int .i16 s.2.2.2.1, .int .i8 s.2.2.2.2]), (p3, rU zero64)]) (Mem.rev3 HM4) hl (fun W ys l2 hW => ⟨(Mem.cellIn hW (.tail _ (.head _)) 0 _ rfl).1, (Mem.cellIn hW (.tail _ (.head _)) 1 _ rfl).1, (Mem.cellIn hW (.tail _ (.head _)) 2 _ rfl).1, (Mem.cellIn hW (.tail _ (.head _)) 3 _ rfl).1, (Mem.cellIn hW (.tail _ (.head _)) 4 _ rfl).1⟩) HQ2.out hwf).mono ?_; rintro e w5 ⟨rfl, bx, hM5⟩; have HM5 : Mem w w5 [] [(p1, rU (strokeF putS true zs s)), (p2, [Value.int .i16 s.1, .int .i16 s.2.1, .int .i16 s.2.2.1, .int .i16 s.2.2.2.1, .int .i8 s.2.2.2.2]), (p3, rU zero64), bx] := hM5; clear hM5) | (refine Mem.wpList_load_row HM5 64 rfl rfl rfl row_sheet (.inl (.head _)) (sub_all (by rw [rU_len]; exact hlen)) (by rw [rU_len]; exact hlen) ?_) | (refine wpList_store (b := p3) (off := 0) (cs := rU zero64) (vs := rU (strokeF putS true zs s)) HM5 2 rfl rfl rfl rfl rfl rfl (by rw [rU_len, hlen]; exact info_sheet) (oneU _) (Nat.ble_eq_true_of_le (by rw [rU_len, rU_len, hlen]; decide)) ?_; intro w6 hM6))
    have HM6 : Mem w w6 [] [(p1, rU (strokeF putS true zs s)), (p2, [Value.int .i16 s.1, .int .i16 s.2.1, .int .i16 s.2.2.1, .int .i16 s.2.2.2.1, .int .i8 s.2.2.2.2]), (p3, rU (strokeF putS true zs s)), bx] := by
      have h := hM6
      rw [splice_all (by rw [rU_len, rU_len, hlen]; rfl)] at h
      exact h
    refine bodyPost_ret (Mem.results2 Try.results38 (Mem.fetch_row HM6 64 rfl row_sheet (.inl (.tail _ (.tail _ (.head _)))) (sub_all (by rw [rU_len]; exact hlen)) (by rw [rU_len]; exact hlen)) (Mem.fetch_tmp (v := .int .i64 0) rfl)) rfl ?_
    exact ⟨_, rfl, by show _ = drawV zs [s]; rw [HV.out]; rfl, HM6.below⟩
--## d
set_option maxHeartbeats 4000000 in
theorem DrawStrokeI (zs : List Int) (s : S5) (w : World) (hl : zs.length = 64) (hwf : wfK s) :
    Calls Try.prog 40 #[.agg (shA zs), st s.1 s.2.1 s.2.2.1 s.2.2.2.1 s.2.2.2.2] w (Gives (fun r => r = drawV zs [s]) w) := by
  obtain ⟨rz, rc, hrl, hV⟩ : ∃ (rz : List Int) (rc : Int), rz.length = 64 ∧ drawV zs [s] = .tuple #[.agg (shA rz), .int .i64 rc] := by
    unfold drawV
    split
    · exact ⟨_, _, by rw [inkAll_len putI_len]; exact hl, rfl⟩
    · exact ⟨_, _, rfl, rfl⟩
  have HV : Aside (drawV zs [s] = .tuple #[.agg (shA rz), .int .i64 rc]) := hV
  clear hV
  have HM0 := Mem.start w
  have tk0 : True := trivial
  have hz := zero_sheet
  go_enter Try.func40, Try.ntmps40
  go_wp2_with (first | (clear tk0; refine Mem.wpList_box HM0 rfl rfl rfl rfl ?_; clear HM0; intro p1 W1 hb1 HM1) | (refine Mem.wpList_box HM1 rfl rfl rfl rfl ?_; clear HM1; intro p2 W2 hb2 HM2a; have HM2 : Mem w W2 [] [(p2, [Value.int .i16 s.1, .int .i16 s.2.1, .int .i16 s.2.2.1, .int .i16 s.2.2.2.1, .int .i8 s.2.2.2.2]), (p1, rU zs)] := HM2a; clear HM2a) | (refine Mem.wpList_alloc HM2 rfl rfl hz rfl ?_; clear HM2; intro p3 W3 hb3 HM3a; have HM3 : Mem w W3 [] [(p3, rU zero64), (p2, [Value.int .i16 s.1, .int .i16 s.2.1, .int .i16 s.2.2.1, .int .i16 s.2.2.2.1, .int .i8 s.2.2.2.2]), (p1, rU zs)] := HM3a; clear HM3a) | (refine Mem.wpList_load_row HM3 64 rfl rfl rfl row_sheet (.inl (.tail _ (.tail _ (.head _)))) (sub_all (by rw [rU_len]; exact hl)) (by rw [rU_len]; exact hl) ?_) | (refine Mem.wpList_load_row HM3 5 rfl rfl rfl (by kernel_rfl) (.inl (.tail _ (.head _))) rfl rfl ?_) | (go_at_call 98; refine (DrawStrokesI zs _ [s] _ hl (rls_oneK (Mem.alloc HM3 #[Value.int .i16 s.1, .int .i16 s.2.1, .int .i16 s.2.2.1, .int .i16 s.2.2.2.1, .int .i8 s.2.2.2.2] 84) (.head _) 1) (by simp) (by simp; exact hwf)).mono ?_; rintro e w5 ⟨_, rfl, rfl, hb5⟩; rw [HV.out]; have HM5 : Mem w w5 [] [(p3, rU zero64), (p2, [Value.int .i16 s.1, .int .i16 s.2.1, .int .i16 s.2.2.1, .int .i16 s.2.2.2.1, .int .i8 s.2.2.2.2]), (p1, rU zs)] := (HM3.call (below_alloc (Below.refl _ _))).call hb5; clear HM3) | (refine wpList_store (b := p3) (off := 0) (cs := rU zero64) (vs := rU rz) HM5 0 rfl rfl rfl rfl rfl rfl (by rw [rU_len, hrl]; exact info_sheet) (oneU rz) (Nat.ble_eq_true_of_le (by rw [rU_len, rU_len, hrl]; decide)) ?_; intro w6 hM6))
  have HM6 : Mem w w6 [] [(p3, rU rz), (p2, [Value.int .i16 s.1, .int .i16 s.2.1, .int .i16 s.2.2.1, .int .i16 s.2.2.2.1, .int .i8 s.2.2.2.2]), (p1, rU zs)] := by
    have h := hM6
    rw [splice_all (by rw [rU_len, rU_len, hrl]; rfl)] at h
    exact h
  refine bodyPost_ret (Mem.results2 Try.results40 (Mem.fetch_row HM6 64 rfl row_sheet (.inl (.head _)) (sub_all (by rw [rU_len]; exact hrl)) (by rw [rU_len]; exact hrl)) (Mem.fetch_tmp (v := .int .i64 rc) rfl)) rfl ?_
  exact ⟨_, rfl, by show _ = drawV zs [s]; rw [HV.out], HM6.below⟩
--## d
end Go.Proofs.Ytpaangcbcknhlaa
