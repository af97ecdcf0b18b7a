/- Contracts: the bits of a point, sameness. -/
import Derived.Test.YtpainjecdolgiaaPtC
import Derived.Test.YtpainjecdolgiaaFlw
namespace Go.Proofs.Ytpainjecdolgiaa
open Go.RowKit Go.Flo Go.Mem Go.Inv
set_option linter.unusedSimpArgs false
set_option linter.unusedVariables false

--## bits 36
set_option maxRecDepth 100000 in
set_option maxHeartbeats 1600000 in
theorem bits_any (x0 x1 x2 : Nat) (w : World) :
    Calls Try.prog 36 #[.agg #[.float .f32 x0, .float .f32 x1, .float .f32 x2]] w (Gives (fun v => v = .agg #[.int .u32 (bitsV (kcv .f32 x0)), .int .u32 (bitsV (kcv .f32 x1)), .int .u32 (bitsV (kcv .f32 x2))]) w) := by
  have HM := Mem.Mem.start w
  have tok_p0 : True := trivial; have tok_p1 : True := trivial
  go_enter Try.func36, Try.ntmps36
  go_wp2_with (first | (clear tok_p0; refine Mem.wpList_box HM rfl rfl rfl rfl ?_; clear HM; intro p0 W hb_p0 HM) | (clear tok_p1; refine Mem.wpList_alloc HM rfl rfl (v := .agg #[.int .u32 0, .int .u32 0, .int .u32 0]) (fun _ => by kernel_rfl) rfl ?_; clear HM; intro p1 W hb_p1 HM))
  obtain ⟨HM, w_p1⟩ : Mem w W [] [(p0, [.float .f32 x0, .float .f32 x1, .float .f32 x2])] ∧ Box w W [(p0, [.float .f32 x0, .float .f32 x1, .float .f32 x2])] 3 (.pointer (some ⟨p1, 0, none⟩)) := Mem.take HM 0 rfl
  refine Inv.wp_region_flow (F := fun L v W => Mem w W [] [(p0, [.float .f32 x0, .float .f32 x1, .float .f32 x2])] ∧ (L 0 = true → (v 0) = .pointer (some ⟨p0, 0, none⟩)) ∧ (L 1 = true → (v 1) = .float .f32 x0) ∧ (L 2 = true → (v 2) = .int .u32 (bitsV (kcv .f32 x0))) ∧ (L 3 = true → (v 3) = .pointer (some ⟨p0, 1, none⟩)) ∧ (L 4 = true → (v 4) = .float .f32 x1) ∧ (L 5 = true → (v 5) = .int .u32 (bitsV (kcv .f32 x1))) ∧ (L 6 = true → (v 6) = .pointer (some ⟨p0, 2, none⟩)) ∧ (L 7 = true → (v 7) = .float .f32 x2) ∧ (L 8 = true → (v 8) = .int .u32 (bitsV (kcv .f32 x2))) ∧ (L 9 = true → (v 9) = .agg #[.int .u32 (bitsV (kcv .f32 x0)), .int .u32 (bitsV (kcv .f32 x1)), .int .u32 (bitsV (kcv .f32 x2))]) ∧ (L 10 = true → Full w W [(p0, [.float .f32 x0, .float .f32 x1, .float .f32 x2])] 3 (.pointer (some ⟨p1, 0, none⟩)) (.agg #[.int .u32 (bitsV (kcv .f32 x0)), .int .u32 (bitsV (kcv .f32 x1)), .int .u32 (bitsV (kcv .f32 x2))])) ∧ Box w W [(p0, [.float .f32 x0, .float .f32 x1, .float .f32 x2])] 3 (.pointer (some ⟨p1, 0, none⟩))) (by kernel_rfl) (by kernel_rfl) (by kernel_rfl) (fun v => ⟨HM.drew, fun h => absurd h Bool.false_ne_true, fun h => absurd h Bool.false_ne_true, fun h => absurd h Bool.false_ne_true, fun h => absurd h Bool.false_ne_true, fun h => absurd h Bool.false_ne_true, fun h => absurd h Bool.false_ne_true, fun h => absurd h Bool.false_ne_true, fun h => absurd h Bool.false_ne_true, fun h => absurd h Bool.false_ne_true, fun h => absurd h Bool.false_ne_true, fun h => absurd h Bool.false_ne_true, Box.call w_p1 (Below.refl _ _).drew⟩) ⟨?_, ?_, ?_, ?_, ?_, ?_, ?_, ?_, ?_, ?_, ?_, trivial⟩ ?_
  · intro L v W a1 hF hn hd hin hout K hK
    obtain ⟨HM, f0, f1, f2, f3, f4, f5, f6, f7, f8, f9, f10, w_p1⟩ := hF
    rw [if_pos (by rfl)]
    exact Inv.wp_indexAddr (u := .pointer (some ⟨p0, 0, none⟩)) rfl ((hout 1 rfl).trans rfl) rfl (fun _ => by kernel_rfl) (hK.out _ W ⟨HM, fun _ => rfl, f1, f2, f3, f4, f5, f6, f7, f8, f9, f10, w_p1⟩)
  · intro L v W a1 hF hn hd hin hout K hK
    obtain ⟨HM, f0, f1, f2, f3, f4, f5, f6, f7, f8, f9, f10, w_p1⟩ := hF
    have D0 : L 0 = true := hd ⟨0, Go.Ground.data⟩ (by simp) rfl
    rw [if_pos (by rfl)]
    have E0 : v 0 = .pointer (some ⟨p0, 0, none⟩) := f0 D0
    exact Mem.wp_load_one HM rfl ((hin 0 _ _ rfl rfl).trans E0) (by kernel_rfl) (.inl (.head _)) rfl (hK.out _ W ⟨HM, f0, fun _ => rfl, f2, f3, f4, f5, f6, f7, f8, f9, f10, w_p1⟩)
  · intro L v W a1 hF hn hd hin hout K hK
    obtain ⟨HM, f0, f1, f2, f3, f4, f5, f6, f7, f8, f9, f10, w_p1⟩ := hF
    have D1 : L 1 = true := hd ⟨1, Go.Ground.data⟩ (by simp) rfl
    rw [if_pos (by rfl)]
    have E1 : v 1 = .float .f32 x0 := f1 D1
    refine Inv.wp_call rfl rfl rfl #[.float .f32 x0] (by simp only [List.map_toArray, List.map_cons, List.map_nil, ((hin 1 _ _ rfl rfl).trans E1)]) (by kernel_rfl) ((bitsOf_any x0 W).mono ?_)
    rintro e W' ⟨_, n, rfl, rfl, hW⟩
    have hb : Below W.heap.size W W' := by rw [← hW]; exact below_draws (Below.refl _ _) n
    exact ⟨_, rfl, hK.out _ W' ⟨(HM.call hb), f0, f1, fun _ => rfl, f3, f4, f5, f6, f7, f8, f9, fun h => Full.call (f10 h) hb, Box.call w_p1 hb⟩⟩
  · intro L v W a1 hF hn hd hin hout K hK
    obtain ⟨HM, f0, f1, f2, f3, f4, f5, f6, f7, f8, f9, f10, w_p1⟩ := hF
    rw [if_pos (by rfl)]
    exact Inv.wp_indexAddr (u := .pointer (some ⟨p0, 1, none⟩)) rfl ((hout 1 rfl).trans rfl) rfl (fun _ => by kernel_rfl) (hK.out _ W ⟨HM, f0, f1, f2, fun _ => rfl, f4, f5, f6, f7, f8, f9, f10, w_p1⟩)
  · intro L v W a1 hF hn hd hin hout K hK
    obtain ⟨HM, f0, f1, f2, f3, f4, f5, f6, f7, f8, f9, f10, w_p1⟩ := hF
    have D3 : L 3 = true := hd ⟨3, Go.Ground.data⟩ (by simp) rfl
    rw [if_pos (by rfl)]
    have E3 : v 3 = .pointer (some ⟨p0, 1, none⟩) := f3 D3
    exact Mem.wp_load_one HM rfl ((hin 3 _ _ rfl rfl).trans E3) (by kernel_rfl) (.inl (.head _)) rfl (hK.out _ W ⟨HM, f0, f1, f2, f3, fun _ => rfl, f5, f6, f7, f8, f9, f10, w_p1⟩)
  · intro L v W a1 hF hn hd hin hout K hK
    obtain ⟨HM, f0, f1, f2, f3, f4, f5, f6, f7, f8, f9, f10, w_p1⟩ := hF
    have D4 : L 4 = true := hd ⟨4, Go.Ground.data⟩ (by simp) rfl
    have D2 : L 2 = true := hd ⟨2, Go.Ground.chain⟩ (by simp) rfl
    rw [if_pos (by rfl)]
    have E4 : v 4 = .float .f32 x1 := f4 D4
    refine Inv.wp_call rfl rfl rfl #[.float .f32 x1] (by simp only [List.map_toArray, List.map_cons, List.map_nil, ((hin 4 _ _ rfl rfl).trans E4)]) (by kernel_rfl) ((bitsOf_any x1 W).mono ?_)
    rintro e W' ⟨_, n, rfl, rfl, hW⟩
    have hb : Below W.heap.size W W' := by rw [← hW]; exact below_draws (Below.refl _ _) n
    exact ⟨_, rfl, hK.out _ W' ⟨(HM.call hb), f0, f1, f2, f3, f4, fun _ => rfl, f6, f7, f8, f9, fun h => Full.call (f10 h) hb, Box.call w_p1 hb⟩⟩
  · intro L v W a1 hF hn hd hin hout K hK
    obtain ⟨HM, f0, f1, f2, f3, f4, f5, f6, f7, f8, f9, f10, w_p1⟩ := hF
    rw [if_pos (by rfl)]
    exact Inv.wp_indexAddr (u := .pointer (some ⟨p0, 2, none⟩)) rfl ((hout 1 rfl).trans rfl) rfl (fun _ => by kernel_rfl) (hK.out _ W ⟨HM, f0, f1, f2, f3, f4, f5, fun _ => rfl, f7, f8, f9, f10, w_p1⟩)
  · intro L v W a1 hF hn hd hin hout K hK
    obtain ⟨HM, f0, f1, f2, f3, f4, f5, f6, f7, f8, f9, f10, w_p1⟩ := hF
    have D6 : L 6 = true := hd ⟨6, Go.Ground.data⟩ (by simp) rfl
    rw [if_pos (by rfl)]
    have E6 : v 6 = .pointer (some ⟨p0, 2, none⟩) := f6 D6
    exact Mem.wp_load_one HM rfl ((hin 6 _ _ rfl rfl).trans E6) (by kernel_rfl) (.inl (.head _)) rfl (hK.out _ W ⟨HM, f0, f1, f2, f3, f4, f5, f6, fun _ => rfl, f8, f9, f10, w_p1⟩)
  · intro L v W a1 hF hn hd hin hout K hK
    obtain ⟨HM, f0, f1, f2, f3, f4, f5, f6, f7, f8, f9, f10, w_p1⟩ := hF
    have D7 : L 7 = true := hd ⟨7, Go.Ground.data⟩ (by simp) rfl
    have D5 : L 5 = true := hd ⟨5, Go.Ground.chain⟩ (by simp) rfl
    rw [if_pos (by rfl)]
    have E7 : v 7 = .float .f32 x2 := f7 D7
    refine Inv.wp_call rfl rfl rfl #[.float .f32 x2] (by simp only [List.map_toArray, List.map_cons, List.map_nil, ((hin 7 _ _ rfl rfl).trans E7)]) (by kernel_rfl) ((bitsOf_any x2 W).mono ?_)
    rintro e W' ⟨_, n, rfl, rfl, hW⟩
    have hb : Below W.heap.size W W' := by rw [← hW]; exact below_draws (Below.refl _ _) n
    exact ⟨_, rfl, hK.out _ W' ⟨(HM.call hb), f0, f1, f2, f3, f4, f5, f6, f7, fun _ => rfl, f9, fun h => Full.call (f10 h) hb, Box.call w_p1 hb⟩⟩
  · intro L v W a1 hF hn hd hin hout K hK
    obtain ⟨HM, f0, f1, f2, f3, f4, f5, f6, f7, f8, f9, f10, w_p1⟩ := hF
    have D2 : L 2 = true := hd ⟨2, Go.Ground.data⟩ (by simp) rfl
    have D5 : L 5 = true := hd ⟨5, Go.Ground.data⟩ (by simp) rfl
    have D8 : L 8 = true := hd ⟨8, Go.Ground.data⟩ (by simp) rfl
    rw [if_pos (by rfl)]
    have E2 : v 2 = .int .u32 (bitsV (kcv .f32 x0)) := f2 D2
    have E5 : v 5 = .int .u32 (bitsV (kcv .f32 x1)) := f5 D5
    have E8 : v 8 = .int .u32 (bitsV (kcv .f32 x2)) := f8 D8
    exact Inv.wp_build (vs := #[(0, .int .u32 (bitsV (kcv .f32 x0))), (1, .int .u32 (bitsV (kcv .f32 x1))), (2, .int .u32 (bitsV (kcv .f32 x2)))]) (u := .agg #[.int .u32 (bitsV (kcv .f32 x0)), .int .u32 (bitsV (kcv .f32 x1)), .int .u32 (bitsV (kcv .f32 x2))]) rfl (by simp only [List.map_toArray, List.map_cons, List.map_nil, ((hin 2 _ _ rfl rfl).trans E2), ((hin 5 _ _ rfl rfl).trans E5), ((hin 8 _ _ rfl rfl).trans E8)]) (fun _ => by kernel_rfl) (hK.out _ W ⟨HM, f0, f1, f2, f3, f4, f5, f6, f7, f8, fun _ => rfl, f10, w_p1⟩)
  · intro L v W a1 hF hn hd hin hout K hK
    obtain ⟨HM, f0, f1, f2, f3, f4, f5, f6, f7, f8, f9, f10, w_p1⟩ := hF
    have D9 : L 9 = true := hd ⟨9, Go.Ground.data⟩ (by simp) rfl
    have D8 : L 8 = true := hd ⟨8, Go.Ground.chain⟩ (by simp) rfl
    have D0 : L 0 = true := hd ⟨0, Go.Ground.phase⟩ (by simp) rfl
    have D1 : L 1 = true := hd ⟨1, Go.Ground.phase⟩ (by simp) rfl
    have D2 : L 2 = true := hd ⟨2, Go.Ground.phase⟩ (by simp) rfl
    have D3 : L 3 = true := hd ⟨3, Go.Ground.phase⟩ (by simp) rfl
    have D4 : L 4 = true := hd ⟨4, Go.Ground.phase⟩ (by simp) rfl
    have D5 : L 5 = true := hd ⟨5, Go.Ground.phase⟩ (by simp) rfl
    have D6 : L 6 = true := hd ⟨6, Go.Ground.phase⟩ (by simp) rfl
    have D7 : L 7 = true := hd ⟨7, Go.Ground.phase⟩ (by simp) rfl
    rw [if_pos (by rfl)]
    have E9 : v 9 = .agg #[.int .u32 (bitsV (kcv .f32 x0)), .int .u32 (bitsV (kcv .f32 x1)), .int .u32 (bitsV (kcv .f32 x2))] := f9 D9
    refine Mem.wp_store_box (n := 3) HM w_p1 rfl ((hout 2 rfl).trans rfl) ((hin 9 _ _ rfl rfl).trans E9) rfl (by kernel_rfl) rfl fun W' HM' hF t1 t2 => ?_
    exact hK.out _ W' ⟨HM', f0, f1, f2, f3, f4, f5, f6, f7, f8, f9, fun _ => hF, t1 _ _ (w_p1)⟩
  clear HM w_p1
  intro L v W2 hL hF
  obtain ⟨HM, f0, f1, f2, f3, f4, f5, f6, f7, f8, f9, f10, w_p1⟩ := hF
  have D0 : L 0 = true := hL 0 rfl
  have D1 : L 1 = true := hL 1 rfl
  have D2 : L 2 = true := hL 2 rfl
  have D3 : L 3 = true := hL 3 rfl
  have D4 : L 4 = true := hL 4 rfl
  have D5 : L 5 = true := hL 5 rfl
  have D6 : L 6 = true := hL 6 rfl
  have D7 : L 7 = true := hL 7 rfl
  have D8 : L 8 = true := hL 8 rfl
  have D9 : L 9 = true := hL 9 rfl
  have D10 : L 10 = true := hL 10 rfl
  have E0 : v 0 = .pointer (some ⟨p0, 0, none⟩) := f0 D0
  have E1 : v 1 = .float .f32 x0 := f1 D1
  have E2 : v 2 = .int .u32 (bitsV (kcv .f32 x0)) := f2 D2
  have E3 : v 3 = .pointer (some ⟨p0, 1, none⟩) := f3 D3
  have E4 : v 4 = .float .f32 x1 := f4 D4
  have E5 : v 5 = .int .u32 (bitsV (kcv .f32 x1)) := f5 D5
  have E6 : v 6 = .pointer (some ⟨p0, 2, none⟩) := f6 D6
  have E7 : v 7 = .float .f32 x2 := f7 D7
  have E8 : v 8 = .int .u32 (bitsV (kcv .f32 x2)) := f8 D8
  have E9 : v 9 = .agg #[.int .u32 (bitsV (kcv .f32 x0)), .int .u32 (bitsV (kcv .f32 x1)), .int .u32 (bitsV (kcv .f32 x2))] := f9 D9
  obtain ⟨p1', e_p1, HM⟩ := HM.add ((f10 D10))
  cases e_p1
  simp only [Inv.putAll, Act.put, List.setIfInBounds_toArray, List.set_cons_zero, List.set_cons_succ, E0, E1, E2, E3, E4, E5, E6, E7, E8, E9]
  clear f0 f1 f2 f3 f4 f5 f6 f7 f8 f9 f10 D0 D1 D2 D3 D4 D5 D6 D7 D8 D9 D10 hL E0 E1 E2 E3 E4 E5 E6 E7 E8 E9 w_p1
  clear L v
  obtain ⟨W, hWW⟩ : ∃ W, W = W2 := ⟨_, rfl⟩; subst hWW
  go_wp2_with fail
  refine bodyPost_ret (Mem.results1 Try.results36 (Mem.fetch_row HM 3 rfl (by kernel_rfl) (by first | exact .inl (.head _) | exact .inl (.tail _ (.head _)) | exact .inl (.tail _ (.tail _ (.head _))) | exact .inl (.tail _ (.tail _ (.tail _ (.head _)))) | exact .inl (.tail _ (.tail _ (.tail _ (.tail _ (.head _))))) | exact .inr (.head _) | exact .inr (.tail _ (.head _))) rfl rfl)) rfl ?_
  exact ⟨_, rfl, rfl, HM.below⟩

--## samePt
def samePt (p q : V3) : Bool := bitsV p.1 == bitsV q.1 && bitsV p.2.1 == bitsV q.2.1 && bitsV p.2.2 == bitsV q.2.2
theorem intBeq (a b : Nat) : ((a : Int) == (b : Int)) = (a == b) := by
  rw [Bool.eq_iff_iff]; simp; omega
--## eqBits 36
theorem eqBits (a0 a1 a2 b0 b1 b2 : Nat) (X Y : Operand) (w : World) : (do eqGuard .eql 74 X Y (.agg #[.int .u32 a0, .int .u32 a1, .int .u32 a2]) (.agg #[.int .u32 b0, .int .u32 b1, .int .u32 b2]); binOp .eql 74 (.agg #[.int .u32 a0, .int .u32 a1, .int .u32 a2]) (.agg #[.int .u32 b0, .int .u32 b1, .int .u32 b2]) : Sem Value).run Try.prog w =
    .ok (.bool (a0 == b0 && a1 == b1 && a2 == b2)) w := by
  have ue := Try.underlying73
  have ae := Try.isAgg73
  have ze := Try.sizeOf73
  have key : (Op.equalIn 10000 74 (.agg #[.int .u32 a0, .int .u32 a1, .int .u32 a2]) (.agg #[.int .u32 b0, .int .u32 b1, .int .u32 b2])).run Try.prog w = .ok (a0 == b0 && a1 == b1 && a2 == b2) w := by
    rw [show (10000 : Nat) = 9999 + 1 from rfl, Op.equalIn]
    simp only [Sem.run_bind, run_underlying Try.underlying74, Result.andThen_ok]
    simp only [Std.Legacy.Range.forIn_eq_forIn_range', Std.Legacy.Range.size, Nat.sub_zero, Nat.add_sub_cancel, Nat.div_one, List.range'_succ, List.range'_zero, List.forIn_cons, List.forIn_nil]
    go_simp
    by_cases h0 : a0 = b0 <;> by_cases h1 : a1 = b1 <;> by_cases h2 : a2 = b2 <;> simp [h0, h1, h2, Int.ofNat_inj]
  simp [go_sem, key]

--## SamePointI 19
set_option maxRecDepth 100000 in
set_option maxHeartbeats 1600000 in
theorem SamePointI (x0 x1 x2 y0 y1 y2 : Nat) (w : World) :
    Calls Try.prog 19 #[.agg #[.float .f32 x0, .float .f32 x1, .float .f32 x2], .agg #[.float .f32 y0, .float .f32 y1, .float .f32 y2]] w (Gives (isB (samePt (cp x0 x1 x2) (cp y0 y1 y2))) w) := by
  have HM := Mem.Mem.start w
  have tok_p0 : True := trivial; have tok_p1 : True := trivial
  go_enter Try.func19, Try.ntmps19
  go_wp2_with (first | (clear tok_p0; refine Mem.wpList_box HM rfl rfl rfl rfl ?_; clear HM; intro p0 W hb_p0 HM) | (clear tok_p1; refine Mem.wpList_box HM rfl rfl rfl rfl ?_; clear HM; intro p1 W hb_p1 HM))
  refine Inv.wp_region_flow (F := fun L v W => Mem w W [] [(p1, [.float .f32 y0, .float .f32 y1, .float .f32 y2]), (p0, [.float .f32 x0, .float .f32 x1, .float .f32 x2])] ∧ (L 0 = true → (v 0) = .agg #[.float .f32 x0, .float .f32 x1, .float .f32 x2]) ∧ (L 1 = true → (v 1) = .agg #[.int .u32 (bitsV (kcv .f32 x0)), .int .u32 (bitsV (kcv .f32 x1)), .int .u32 (bitsV (kcv .f32 x2))]) ∧ (L 2 = true → (v 2) = .agg #[.float .f32 y0, .float .f32 y1, .float .f32 y2]) ∧ (L 3 = true → (v 3) = .agg #[.int .u32 (bitsV (kcv .f32 y0)), .int .u32 (bitsV (kcv .f32 y1)), .int .u32 (bitsV (kcv .f32 y2))]) ∧ (L 4 = true → (v 4) = .bool (samePt (cp x0 x1 x2) (cp y0 y1 y2))) ∧ (L 5 = true → (v 5) = .bool (samePt (cp x0 x1 x2) (cp y0 y1 y2)))) (by kernel_rfl) (by kernel_rfl) (by kernel_rfl) (fun v => ⟨HM.drew, fun h => absurd h Bool.false_ne_true, fun h => absurd h Bool.false_ne_true, fun h => absurd h Bool.false_ne_true, fun h => absurd h Bool.false_ne_true, fun h => absurd h Bool.false_ne_true, fun h => absurd h Bool.false_ne_true⟩) ⟨?_, ?_, ?_, ?_, ?_, ?_, trivial⟩ ?_
  · intro L v W a1 hF hn hd hin hout K hK
    obtain ⟨HM, f0, f1, f2, f3, f4, f5⟩ := hF
    rw [if_pos (by rfl)]
    exact Mem.wp_load_row HM 3 rfl ((hout 2 rfl).trans rfl) (by kernel_rfl) (.inl (.tail _ (.head _))) rfl rfl (hK.out _ W ⟨HM, fun _ => rfl, f1, f2, f3, f4, f5⟩)
  · intro L v W a1 hF hn hd hin hout K hK
    obtain ⟨HM, f0, f1, f2, f3, f4, f5⟩ := hF
    have D0 : L 0 = true := hd ⟨0, Go.Ground.data⟩ (by simp) rfl
    rw [if_pos (by rfl)]
    have E0 : v 0 = .agg #[.float .f32 x0, .float .f32 x1, .float .f32 x2] := f0 D0
    refine Inv.wp_call rfl rfl rfl #[.agg #[.float .f32 x0, .float .f32 x1, .float .f32 x2]] (by simp only [List.map_toArray, List.map_cons, List.map_nil, ((hin 0 _ _ rfl rfl).trans E0)]) (by kernel_rfl) ((bits_any x0 x1 x2 W).mono ?_)
    rintro e W' ⟨_, rfl, rfl, hb⟩
    exact ⟨_, rfl, hK.out _ W' ⟨(HM.call hb), f0, fun _ => rfl, f2, f3, f4, f5⟩⟩
  · intro L v W a1 hF hn hd hin hout K hK
    obtain ⟨HM, f0, f1, f2, f3, f4, f5⟩ := hF
    rw [if_pos (by rfl)]
    exact Mem.wp_load_row HM 3 rfl ((hout 3 rfl).trans rfl) (by kernel_rfl) (.inl (.head _)) rfl rfl (hK.out _ W ⟨HM, f0, f1, fun _ => rfl, f3, f4, f5⟩)
  · intro L v W a1 hF hn hd hin hout K hK
    obtain ⟨HM, f0, f1, f2, f3, f4, f5⟩ := hF
    have D2 : L 2 = true := hd ⟨2, Go.Ground.data⟩ (by simp) rfl
    have D1 : L 1 = true := hd ⟨1, Go.Ground.chain⟩ (by simp) rfl
    rw [if_pos (by rfl)]
    have E2 : v 2 = .agg #[.float .f32 y0, .float .f32 y1, .float .f32 y2] := f2 D2
    refine Inv.wp_call rfl rfl rfl #[.agg #[.float .f32 y0, .float .f32 y1, .float .f32 y2]] (by simp only [List.map_toArray, List.map_cons, List.map_nil, ((hin 2 _ _ rfl rfl).trans E2)]) (by kernel_rfl) ((bits_any y0 y1 y2 W).mono ?_)
    rintro e W' ⟨_, rfl, rfl, hb⟩
    exact ⟨_, rfl, hK.out _ W' ⟨(HM.call hb), f0, f1, f2, fun _ => rfl, f4, f5⟩⟩
  · intro L v W a1 hF hn hd hin hout K hK
    obtain ⟨HM, f0, f1, f2, f3, f4, f5⟩ := hF
    have D1 : L 1 = true := hd ⟨1, Go.Ground.data⟩ (by simp) rfl
    have D3 : L 3 = true := hd ⟨3, Go.Ground.data⟩ (by simp) rfl
    rw [if_pos (by rfl)]
    have E1 : v 1 = .agg #[.int .u32 (bitsV (kcv .f32 x0)), .int .u32 (bitsV (kcv .f32 x1)), .int .u32 (bitsV (kcv .f32 x2))] := f1 D1
    have E3 : v 3 = .agg #[.int .u32 (bitsV (kcv .f32 y0)), .int .u32 (bitsV (kcv .f32 y1)), .int .u32 (bitsV (kcv .f32 y2))] := f3 D3
    exact Inv.wp_binop (u := .bool (samePt (cp x0 x1 x2) (cp y0 y1 y2))) rfl ((hin 1 _ _ rfl rfl).trans E1) ((hin 3 _ _ rfl rfl).trans E3) (eqBits _ _ _ _ _ _ _ _) (hK.out _ W ⟨HM, f0, f1, f2, f3, fun _ => rfl, f5⟩)
  · intro L v W a1 hF hn hd hin hout K hK
    obtain ⟨HM, f0, f1, f2, f3, f4, f5⟩ := hF
    have D4 : L 4 = true := hd ⟨4, Go.Ground.data⟩ (by simp) rfl
    have D3 : L 3 = true := hd ⟨3, Go.Ground.chain⟩ (by simp) rfl
    have D0 : L 0 = true := hd ⟨0, Go.Ground.phase⟩ (by simp) rfl
    have D1 : L 1 = true := hd ⟨1, Go.Ground.phase⟩ (by simp) rfl
    have D2 : L 2 = true := hd ⟨2, Go.Ground.phase⟩ (by simp) rfl
    rw [if_pos (by rfl)]
    have E4 : v 4 = .bool (samePt (cp x0 x1 x2) (cp y0 y1 y2)) := f4 D4
    exact Inv.wp_move (.inr rfl) ((hin 4 _ _ rfl rfl).trans E4) (hK.out _ W ⟨HM, f0, f1, f2, f3, f4, fun _ => rfl⟩)
  clear HM
  intro L v W2 hL hF
  obtain ⟨HM, f0, f1, f2, f3, f4, f5⟩ := hF
  have D0 : L 0 = true := hL 0 rfl
  have D1 : L 1 = true := hL 1 rfl
  have D2 : L 2 = true := hL 2 rfl
  have D3 : L 3 = true := hL 3 rfl
  have D4 : L 4 = true := hL 4 rfl
  have D5 : L 5 = true := hL 5 rfl
  have E0 : v 0 = .agg #[.float .f32 x0, .float .f32 x1, .float .f32 x2] := f0 D0
  have E1 : v 1 = .agg #[.int .u32 (bitsV (kcv .f32 x0)), .int .u32 (bitsV (kcv .f32 x1)), .int .u32 (bitsV (kcv .f32 x2))] := f1 D1
  have E2 : v 2 = .agg #[.float .f32 y0, .float .f32 y1, .float .f32 y2] := f2 D2
  have E3 : v 3 = .agg #[.int .u32 (bitsV (kcv .f32 y0)), .int .u32 (bitsV (kcv .f32 y1)), .int .u32 (bitsV (kcv .f32 y2))] := f3 D3
  have E4 : v 4 = .bool (samePt (cp x0 x1 x2) (cp y0 y1 y2)) := f4 D4
  have E5 : v 5 = .bool (samePt (cp x0 x1 x2) (cp y0 y1 y2)) := f5 D5
  simp only [Inv.putAll, Act.put, List.setIfInBounds_toArray, List.set_cons_zero, List.set_cons_succ, E0, E1, E2, E3, E4, E5]
  clear f0 f1 f2 f3 f4 f5 D0 D1 D2 D3 D4 D5 hL E0 E1 E2 E3 E4 E5
  clear L v
  obtain ⟨W, hWW⟩ : ∃ W, W = W2 := ⟨_, rfl⟩; subst hWW
  go_wp2_with fail
  refine bodyPost_ret (Mem.results1 Try.results19 (Mem.fetch_tmp rfl)) rfl ?_
  exact ⟨_, rfl, rfl, HM.below⟩

--## l01Same 35
theorem same_order {x : Nat} : FloatKind.f32.format.order x x = if (kcv .f32 x).isNone then none else some .eq := by
  rcases cv_cases FloatKind.f32.format x with ⟨h1, g1⟩ | ⟨h1, g1⟩
  · rw [order_nan_left (good .f32) g1]; unfold kcv; rw [h1]; rfl
  · rw [order_refl (good .f32) g1]; unfold kcv; rw [h1]; rfl
theorem bitsV_none {x : V} (h : x.isNone = true) : bitsV x = 2143289344 := by cases x <;> simp_all [bitsV]
theorem bitsV_some {x : Nat} (h : (kcv .f32 x).isNone = false) : bitsV (kcv .f32 x) = x ∧ x ≠ 2143289344 := by
  refine ⟨bitsV_of h, ?_⟩
  rintro rfl
  rw [show kcv .f32 2143289344 = none by kernel_rfl] at h; cases h
set_option maxHeartbeats 400000 in
theorem l01Same_any (x y : Nat) (w : World) :
    Calls Try.prog 35 #[.float .f32 x, .float .f32 y] w (Same (isB (bitsV (kcv .f32 x) == bitsV (kcv .f32 y))) w) := by
  have hb := bits32
  have ox := same_order (x := x); have oy := same_order (x := y)
  cases hx : (kcv .f32 x).isNone <;> cases hy : (kcv .f32 y).isNone
  all_goals
    rw [hx] at ox; rw [hy] at oy
    go_enter Try.func35, Try.ntmps35
    go_wp2
  all_goals
    simp [bodyPost, results, Try.results35, go_sem]
    refine ⟨_, rfl, ?_, rfl⟩
    unfold isB
    first
      | (rw [(bitsV_some hx).1, (bitsV_some hy).1, intBeq]; done)
      | (rw [(bitsV_some hx).1, bitsV_none hy]; have h := (bitsV_some hx).2; simp [h]; done)
      | (rw [(bitsV_some hy).1, bitsV_none hx]; have h := (bitsV_some hy).2; simp [Ne.symm h]; done)
      | (rw [bitsV_none hx, bitsV_none hy]; rfl)
--## SameNumberI 20
set_option maxHeartbeats 400000 in
theorem SameNumberI (x y : Nat) (w : World) :
    Calls Try.prog 20 #[.float .f32 x, .float .f32 y] w (Drew' (isB (bitsV (kcv .f32 x) == bitsV (kcv .f32 y))) w) := by
  go_enter Try.func20, Try.ntmps20
  go_wp2_with (first | (go_at_call 37; refine (bitsOf_any _ _).mono ?_; rintro e w' ⟨_, n, rfl, rfl, rfl⟩))
  simp [bodyPost, results, Try.results20, go_sem]
  exact ⟨_, _, rfl, by unfold isB; rw [intBeq], rfl⟩
--## l01SamePoint 34
set_option maxHeartbeats 800000 in
theorem l01SamePoint_any (x0 x1 x2 y0 y1 y2 : Nat) (w : World) :
    Calls Try.prog 34 #[.agg #[.float .f32 x0, .float .f32 x1, .float .f32 x2], .agg #[.float .f32 y0, .float .f32 y1, .float .f32 y2]] w (Gives (isB (samePt (cp x0 x1 x2) (cp y0 y1 y2))) w) := by
  unfold samePt cp
  cases h0 : bitsV (kcv .f32 x0) == bitsV (kcv .f32 y0) <;> cases h1 : bitsV (kcv .f32 x1) == bitsV (kcv .f32 y1)
  all_goals
    go_enter Try.func34, Try.ntmps34
    go_wp2_with (first | (go_at_call 35; refine (l01Same_any _ _ _).mono ?_; rintro e w' ⟨_, rfl, rfl, rfl⟩; (first | rw [h0] | rw [h1] | skip)))
  all_goals
    simp [bodyPost, results, Try.results34, go_sem]
    exact ⟨_, rfl, by simp [isB, h0, h1], by ((try simp only [Hid] at *); repeat' (first | (with_reducible exact Below.refl _ _) | (with_reducible assumption) | (with_reducible refine below_drewN ?_ _) | (with_reducible refine Below.drew ?_) | (with_reducible refine below_alloc ?_) | (with_reducible refine below_set ?_ ?_) | (refine below_step (by with_reducible assumption) ?_) | (simp; done) | (simp; omega) | omega))⟩
--## SamePointS 49
set_option maxHeartbeats 400000 in
theorem SamePointS (x0 x1 x2 y0 y1 y2 : Nat) (w : World) :
    Calls Try.prog 49 #[.agg #[.float .f32 x0, .float .f32 x1, .float .f32 x2], .agg #[.float .f32 y0, .float .f32 y1, .float .f32 y2]] w (Gives (isB (samePt (cp x0 x1 x2) (cp y0 y1 y2))) w) := by
  go_enter Try.func49, Try.ntmps49
  go_wp2_with (first | (go_at_call 34; refine (l01SamePoint_any _ _ _ _ _ _ _).mono ?_; rintro e w' ⟨_, rfl, rfl, hb⟩))
  simp [bodyPost, results, Try.results49, go_sem]
  exact ⟨_, rfl, rfl, by ((try simp only [Hid] at *); repeat' (first | (with_reducible exact Below.refl _ _) | (with_reducible assumption) | (with_reducible refine below_drewN ?_ _) | (with_reducible refine Below.drew ?_) | (with_reducible refine below_alloc ?_) | (with_reducible refine below_set ?_ ?_) | (refine below_step (by with_reducible assumption) ?_) | (simp; done) | (simp; omega) | omega))⟩

--## end
end Go.Proofs.Ytpainjecdolgiaa
