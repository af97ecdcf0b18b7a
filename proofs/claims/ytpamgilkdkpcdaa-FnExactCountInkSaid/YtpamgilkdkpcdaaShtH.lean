/- Contracts: HasInk, both sides. -/
import Derived.Test.YtpamgilkdkpcdaaShtG
import Derived.Test.YtpamgilkdkpcdaaFlw
namespace Go.Proofs.Ytpamgilkdkpcdaa
open Go.Inv
open Go.ChangeShapes Go.WideShapes Go.ChangeAt Go.RowKit Go.Flo Go.Mem
set_option linter.unusedSimpArgs false
set_option linter.unusedVariables false
set_option maxRecDepth 20000
theorem ink_bit (z : Int) (x : Nat) (hz : 0 ≤ z ∧ z < 18446744073709551616) (h : x < 64) : (bits BinOp.and IntKind.u64 (z / 2 ^ min (IntKind.u64.wrap (x : Int)).toNat 64) 1 == 1) = z.toNat.testBit x := by
  have e : IntKind.u64.wrap (x : Int) = (x : Int) := by
    unfold IntKind.wrap
    simp [IntKind.signed, IntKind.bits]
    omega
  obtain ⟨n, rfl⟩ : ∃ n : Nat, z = n := ⟨z.toNat, by omega⟩
  rw [e, Int.toNat_natCast, Nat.min_eq_left (by omega : x ≤ 64), Int.toNat_natCast]
  have e2 : ((n : Int) / 2 ^ x) = ((n / 2 ^ x : Nat) : Int) := by simp
  have hd : n / 2 ^ x ≤ n := Nat.div_le_self _ _
  rw [e2]
  rw [← Nat.shiftRight_eq_div_pow] at hd ⊢
  rw [Nat.testBit]
  generalize n >>> x = m at *
  have hw := u64_and (m : Int) 1 (by omega) (by omega) (by decide) (by decide)
  rw [hw, Int.toNat_natCast, show (1 : Int).toNat = 1 from rfl, Nat.and_comm 1 m, Nat.and_one_is_mod]
  have := Nat.mod_two_eq_zero_or_one m
  rcases this with h | h <;> rw [h] <;> rfl
set_option maxHeartbeats 4000000 in
theorem HasInkS_on (zs : List Int) (x y : Nat) (z : Int) (w : World) (hs : Sh zs) (hx : x < 64) (hy : y < 64) (hz : zs[y]? = some z) :
    Calls Try.prog 5 #[.agg (shA zs), mk x y] w (Gives (isB (z.toNat.testBit x)) w) := by
  have HO : ∀ w, Calls Try.prog 11 #[mk x y] w (Gives (isB true) w) := fun w => by
    have h := l06OnS x y w
    rw [show onF x y = true by simp [onF]; omega] at h
    exact h
  have HM0 := Mem.start w
  have tk0 : True := trivial
  have hx0 : (0 : Int) ≤ (x : Int) := Int.natCast_nonneg _
  have hx1 : (x : Int) ≤ 63 := by omega
  have hy0 : (0 : Int) ≤ (y : Int) := Int.natCast_nonneg _
  have hy1 : (y : Int) < 64 := by omega
  go_enter Try.func5, Try.ntmps5
  go_wp2_with (first | (clear tk0; refine Mem.wpList_box HM0 rfl rfl rfl rfl ?_; clear HM0; intro p1 W1 hb1 HM1) | (refine Mem.wpList_box HM1 rfl rfl rfl rfl ?_; clear HM1; intro p2 W2 hb2 HM2a; have HM2 : Mem w W2 [] [(p2, [.int .i16 x, .int .i16 y]), (p1, rU zs)] := HM2a; clear HM2a))
  have hK : ∀ W, Bel W2 W → W.cell? ⟨p1, y, none⟩ = some (.int .u64 z) ∧ W.cell? ⟨p2, 0, none⟩ = some (.int .i16 (x : Int)) ∧ W.cell? ⟨p2, 1, none⟩ = some (.int .i16 (y : Int)) ∧ Bel W2 W := fun W hB =>
    ⟨(Mem.cellIn (HM2.call hB) (.tail _ (.head _)) y _ (rU_get hz)).1, (Mem.cellIn (HM2.call hB) (.head _) 0 _ rfl).1, (Mem.cellIn (HM2.call hB) (.head _) 1 _ rfl).1, hB⟩
  have hL : ∀ W, Bel W2 W → Below w.heap.size w W := fun W hB => (HM2.call hB).below
  clear HM2
  go_region_held3 (fun W => W.cell? ⟨p1, y, none⟩ = some (.int .u64 z) ∧ W.cell? ⟨p2, 0, none⟩ = some (.int .i16 (x : Int)) ∧ W.cell? ⟨p2, 1, none⟩ = some (.int .i16 (y : Int)) ∧ Bel W2 W) (first | (with_reducible assumption) | (refine hK _ ?_; (repeat' (first | (with_reducible exact Bel.refl _) | (with_reducible assumption) | (with_reducible exact And.right (And.right (And.right (by assumption)))) | (with_reducible refine Bel.drew ?_) | (with_reducible refine Bel.step ?_ hb))); done) | go_keep) (first | (go_at_call 11; refine (HO _).mono ?_; rintro e w' ⟨_, rfl, rfl, hb⟩))
  rw [ink_bit z x (hs.2 z (List.mem_of_getElem? hz)) hx]
  have hB2 : Bel W2 w' := Bel.step (Bel.drew (Bel.refl _)) hb
  go_wp2_with fail
  simp [bodyPost, results, Try.results5, go_sem]
  exact ⟨_, rfl, rfl, hL _ hB2⟩
theorem run_neq_sheet (zs ys : List Int) (hz : zs.length = 64) (hy : ys.length = 64) (w : World) : (binOp .neq 27 (.agg (rU zs).toArray) (.agg (rU ys).toArray)).run Try.prog w = .ok (.bool (!decide (zs = ys))) w := by
  rw [run_neq_struct]
  have h := run_equalIn_sheet zs ys hz hy 9998 w
  rw [show Op.equalIn 10000 = Op.equalIn (9998 + 1 + 1) from rfl]
  show Result.andThen ((Op.equalIn (9998 + 1 + 1) 27 (.agg (shA zs)) (.agg (shA ys))).run Try.prog w) _ = _
  rw [h]
  rfl
set_option maxHeartbeats 4000000 in
theorem HasInkI (zs : List Int) (x y : Int) (w : World) (hs : Sh zs) :
    Calls Try.prog 8 #[.agg (shA zs), mk x y] w (Gives (isB (inkB zs x y)) w) := by
  have HV : Aside ((!decide (putI zs false x y = zs)) = inkB zs x y) := put_ne hs x y
  have hl := hs.1
  clear hs
  have hp : (putI zs false x y).length = 64 := by rw [putI_len]; exact hl
  have hN := run_neq_sheet _ _ hp hl
  have hgt : Try.prog.eqGuardType Try.prog.depth 27 = false := by kernel_rfl
  have HM0 := Mem.start w
  have tk0 : True := trivial
  have hz := zero_sheet
  go_enter Try.func8, Try.ntmps8
  go_wp2_with (first | (clear tk0; refine Mem.wpList_box HM0 rfl rfl rfl rfl ?_; clear HM0; intro p1 W1 hb1 HM1) | (refine Mem.wpList_box HM1 rfl rfl rfl rfl ?_; clear HM1; intro p2 W2 hb2 HM2a; have HM2 : Mem w W2 [] [(p2, [.int .i16 x, .int .i16 y]), (p1, rU zs)] := HM2a; clear HM2a) | (refine Mem.wpList_load_row HM2 64 rfl rfl rfl row_sheet (.inl (.tail _ (.head _))) (sub_all (by rw [rU_len]; exact hl)) (by rw [rU_len]; exact hl) ?_) | (refine Mem.wpList_alloc HM2 rfl rfl hz rfl ?_; clear HM2; intro p3 W3 hb3 HM3a; have HM3 : Mem w W3 [] [(p3, rU zero64), (p2, [.int .i16 x, .int .i16 y]), (p1, rU zs)] := HM3a; clear HM3a) | (refine wpList_store (b := p3) (off := 0) (cs := rU zero64) (vs := rU zs) HM3 0 rfl rfl rfl rfl rfl rfl (by rw [rU_len, hl]; exact info_sheet) (oneU _) (Nat.ble_eq_true_of_le (by rw [rU_len, rU_len, hl]; decide)) ?_; clear HM3; intro w4 hM4; have HM4 : Mem w w4 [] [(p3, rU zs), (p2, [.int .i16 x, .int .i16 y]), (p1, rU zs)] := (by have h := hM4; rw [splice_all (by rw [rU_len, rU_len, hl]; rfl)] at h; exact h); clear hM4) | (refine Mem.wpList_load_row HM4 2 rfl rfl rfl (by kernel_rfl) (.inl (.tail _ (.head _))) rfl rfl ?_) | (go_at_call 12; refine (putI_all p3 x y false zs w _ HM4 hl).mono ?_; clear HM4; rintro e w5 ⟨rfl, HM5⟩) | (refine Mem.wpList_load_row HM5 64 rfl rfl rfl row_sheet (.inl (.head _)) (sub_all (by rw [rU_len]; exact hp)) (by rw [rU_len]; exact hp) ?_) | (refine Mem.wpList_load_row HM5 64 rfl rfl rfl row_sheet (.inl (.tail _ (.tail _ (.head _)))) (sub_all (by rw [rU_len]; exact hl)) (by rw [rU_len]; exact hl) ?_) | (refine wpList_plain rfl fun K hK => Inv.wp_binop (u := .bool (!decide (putI zs false x y = zs))) rfl rfl rfl (fun w => ?_) (hK _ _ ?_); case refine_1 => (rw [Sem.run_bind, run_eqGuard_agg _ _ _ _ _ _ hgt]; exact hN w)))
  simp [bodyPost, results, Try.results8, go_sem]
  exact ⟨_, rfl, by rw [HV.out]; rfl, HM5.below⟩
theorem HasInkS_off (zs : List Int) (x y : Int) (w : World) (hl : zs.length = 64) (ho : onF x y = false) :
    Calls Try.prog 5 #[.agg (shA zs), mk x y] w (Gives (isB false) w) := by
  have HO : ∀ w, Calls Try.prog 11 #[mk x y] w (Gives (isB false) w) := fun w => ho ▸ l06OnS x y w
  have HM0 := Mem.start w
  have tk0 : True := trivial
  go_enter Try.func5, Try.ntmps5
  go_wp2_with (first | (clear tk0; refine Mem.wpList_box HM0 rfl rfl rfl rfl ?_; clear HM0; intro p1 W1 hb1 HM1) | (refine Mem.wpList_box HM1 rfl rfl rfl rfl ?_; clear HM1; intro p2 W2 hb2 HM2a; have HM2 : Mem w W2 [] [(p2, [.int .i16 x, .int .i16 y]), (p1, rU zs)] := HM2a; clear HM2a))
  obtain ⟨W, hWW⟩ : ∃ W, W = W2 := ⟨_, rfl⟩; subst hWW
  have HM : Mem w W [] [(p2, [.int .i16 x, .int .i16 y]), (p1, rU zs)] := HM2
  clear HM2
  refine Inv.wp_region_flow (F := fun L v W => Mem w W [] [(p2, [.int .i16 x, .int .i16 y]), (p1, rU zs)] ∧ (L 0 = true → (v 0) = .agg #[.int .i16 x, .int .i16 y]) ∧ (L 1 = true → (v 1) = .bool false) ∧ (L 2 = true → (v 2) = .bool false) ∧ (L 3 = true → (v 3) = undef) ∧ (L 4 = true → (v 4) = undef) ∧ (L 5 = true → (v 5) = undef) ∧ (L 6 = true → (v 6) = undef) ∧ (L 7 = true → (v 7) = undef) ∧ (L 8 = true → (v 8) = undef) ∧ (L 9 = true → (v 9) = undef) ∧ (L 10 = true → (v 10) = undef) ∧ (L 11 = true → (v 11) = undef) ∧ (L 12 = true → (v 12) = undef) ∧ (L 13 = true → (v 13) = .bool false) ∧ (L 14 = true → (v 14) = .bool false)) (by kernel_rfl) (by kernel_rfl) (by kernel_rfl) (fun v => ⟨HM.drew, fun h => absurd h Bool.false_ne_true, fun h => absurd h Bool.false_ne_true, fun h => absurd h Bool.false_ne_true, fun h => absurd h Bool.false_ne_true, fun h => absurd h Bool.false_ne_true, fun h => absurd h Bool.false_ne_true, fun h => absurd h Bool.false_ne_true, fun h => absurd h Bool.false_ne_true, fun h => absurd h Bool.false_ne_true, fun h => absurd h Bool.false_ne_true, fun h => absurd h Bool.false_ne_true, fun h => absurd h Bool.false_ne_true, fun h => absurd h Bool.false_ne_true, fun h => absurd h Bool.false_ne_true, fun h => absurd h Bool.false_ne_true⟩) ⟨?_, ?_, ?_, ?_, ?_, ?_, ?_, ?_, ?_, ?_, ?_, ?_, ?_, ?_, ?_, trivial⟩ ?_
  · intro L v W a1 hF hn hd hin hout K hK
    obtain ⟨HM, f0, f1, f2, f3, f4, f5, f6, f7, f8, f9, f10, f11, f12, f13, f14⟩ := hF
    rw [if_pos (by rfl)]
    exact Mem.wp_load_row HM 2 rfl ((hout 3 rfl).trans rfl) (by kernel_rfl) (.inl (.head _)) rfl rfl (hK.out _ W ⟨HM, fun _ => rfl, f1, f2, f3, f4, f5, f6, f7, f8, f9, f10, f11, f12, f13, f14⟩)
  · intro L v W a1 hF hn hd hin hout K hK
    obtain ⟨HM, f0, f1, f2, f3, f4, f5, f6, f7, f8, f9, f10, f11, f12, f13, f14⟩ := hF
    have D0 : L 0 = true := hd ⟨0, Go.Ground.data⟩ (by simp) rfl
    rw [if_pos (by rfl)]
    have E0 : v 0 = .agg #[.int .i16 x, .int .i16 y] := f0 D0
    refine Inv.wp_call rfl rfl rfl #[.agg #[.int .i16 x, .int .i16 y]] (by simp only [List.map_toArray, List.map_cons, List.map_nil, ((hin 0 _ _ rfl rfl).trans E0)]) (by kernel_rfl) ((HO W).mono ?_)
    rintro e W' ⟨_, rfl, rfl, hb⟩
    exact ⟨_, rfl, hK.out _ W' ⟨(HM.call hb), f0, fun _ => rfl, f2, f3, f4, f5, f6, f7, f8, f9, f10, f11, f12, f13, f14⟩⟩
  · intro L v W a1 hF hn hd hin hout K hK
    obtain ⟨HM, f0, f1, f2, f3, f4, f5, f6, f7, f8, f9, f10, f11, f12, f13, f14⟩ := hF
    have D1 : L 1 = true := hd ⟨1, Go.Ground.data⟩ (by simp) rfl
    rw [if_pos (by rfl)]
    have E1 : v 1 = .bool false := f1 D1
    exact Inv.wp_move (.inl rfl) ((hin 1 _ _ rfl rfl).trans E1) (hK.out _ W ⟨HM, f0, f1, fun _ => rfl, f3, f4, f5, f6, f7, f8, f9, f10, f11, f12, f13, f14⟩)
  · intro L v W a1 hF hn hd hin hout K hK
    obtain ⟨HM, f0, f1, f2, f3, f4, f5, f6, f7, f8, f9, f10, f11, f12, f13, f14⟩ := hF
    have D2 : L 2 = true := hd ⟨2, Go.Ground.guard⟩ (by simp) rfl
    have E2 : v 2 = .bool false := f2 D2
    rw [if_neg (by rw [Inv.wanted_of (b := false) rfl rfl rfl ((hin 2 _ _ rfl rfl).trans E2)]; decide)]
    exact hK.out _ W ⟨HM, f0, f1, f2, fun _ => rfl, f4, f5, f6, f7, f8, f9, f10, f11, f12, f13, f14⟩
  · intro L v W a1 hF hn hd hin hout K hK
    obtain ⟨HM, f0, f1, f2, f3, f4, f5, f6, f7, f8, f9, f10, f11, f12, f13, f14⟩ := hF
    have D3 : L 3 = true := hd ⟨3, Go.Ground.data⟩ (by simp) rfl
    have D2 : L 2 = true := hd ⟨2, Go.Ground.guard⟩ (by simp) rfl
    have E2 : v 2 = .bool false := f2 D2
    rw [if_neg (by rw [Inv.wanted_of (b := false) rfl rfl rfl ((hin 2 _ _ rfl rfl).trans E2)]; decide)]
    exact hK.out _ W ⟨HM, f0, f1, f2, f3, fun _ => rfl, f5, f6, f7, f8, f9, f10, f11, f12, f13, f14⟩
  · intro L v W a1 hF hn hd hin hout K hK
    obtain ⟨HM, f0, f1, f2, f3, f4, f5, f6, f7, f8, f9, f10, f11, f12, f13, f14⟩ := hF
    have D4 : L 4 = true := hd ⟨4, Go.Ground.data⟩ (by simp) rfl
    have D2 : L 2 = true := hd ⟨2, Go.Ground.guard⟩ (by simp) rfl
    have E2 : v 2 = .bool false := f2 D2
    rw [if_neg (by rw [Inv.wanted_of (b := false) rfl rfl rfl ((hin 2 _ _ rfl rfl).trans E2)]; decide)]
    exact hK.out _ W ⟨HM, f0, f1, f2, f3, f4, fun _ => rfl, f6, f7, f8, f9, f10, f11, f12, f13, f14⟩
  · intro L v W a1 hF hn hd hin hout K hK
    obtain ⟨HM, f0, f1, f2, f3, f4, f5, f6, f7, f8, f9, f10, f11, f12, f13, f14⟩ := hF
    have D5 : L 5 = true := hd ⟨5, Go.Ground.data⟩ (by simp) rfl
    have D2 : L 2 = true := hd ⟨2, Go.Ground.guard⟩ (by simp) rfl
    have E2 : v 2 = .bool false := f2 D2
    rw [if_neg (by rw [Inv.wanted_of (b := false) rfl rfl rfl ((hin 2 _ _ rfl rfl).trans E2)]; decide)]
    exact hK.out _ W ⟨HM, f0, f1, f2, f3, f4, f5, fun _ => rfl, f7, f8, f9, f10, f11, f12, f13, f14⟩
  · intro L v W a1 hF hn hd hin hout K hK
    obtain ⟨HM, f0, f1, f2, f3, f4, f5, f6, f7, f8, f9, f10, f11, f12, f13, f14⟩ := hF
    have D2 : L 2 = true := hd ⟨2, Go.Ground.guard⟩ (by simp) rfl
    have E2 : v 2 = .bool false := f2 D2
    rw [if_neg (by rw [Inv.wanted_of (b := false) rfl rfl rfl ((hin 2 _ _ rfl rfl).trans E2)]; decide)]
    exact hK.out _ W ⟨HM, f0, f1, f2, f3, f4, f5, f6, fun _ => rfl, f8, f9, f10, f11, f12, f13, f14⟩
  · intro L v W a1 hF hn hd hin hout K hK
    obtain ⟨HM, f0, f1, f2, f3, f4, f5, f6, f7, f8, f9, f10, f11, f12, f13, f14⟩ := hF
    have D7 : L 7 = true := hd ⟨7, Go.Ground.data⟩ (by simp) rfl
    have D2 : L 2 = true := hd ⟨2, Go.Ground.guard⟩ (by simp) rfl
    have E2 : v 2 = .bool false := f2 D2
    rw [if_neg (by rw [Inv.wanted_of (b := false) rfl rfl rfl ((hin 2 _ _ rfl rfl).trans E2)]; decide)]
    exact hK.out _ W ⟨HM, f0, f1, f2, f3, f4, f5, f6, f7, fun _ => rfl, f9, f10, f11, f12, f13, f14⟩
  · intro L v W a1 hF hn hd hin hout K hK
    obtain ⟨HM, f0, f1, f2, f3, f4, f5, f6, f7, f8, f9, f10, f11, f12, f13, f14⟩ := hF
    have D8 : L 8 = true := hd ⟨8, Go.Ground.data⟩ (by simp) rfl
    have D2 : L 2 = true := hd ⟨2, Go.Ground.guard⟩ (by simp) rfl
    have E2 : v 2 = .bool false := f2 D2
    rw [if_neg (by rw [Inv.wanted_of (b := false) rfl rfl rfl ((hin 2 _ _ rfl rfl).trans E2)]; decide)]
    exact hK.out _ W ⟨HM, f0, f1, f2, f3, f4, f5, f6, f7, f8, fun _ => rfl, f10, f11, f12, f13, f14⟩
  · intro L v W a1 hF hn hd hin hout K hK
    obtain ⟨HM, f0, f1, f2, f3, f4, f5, f6, f7, f8, f9, f10, f11, f12, f13, f14⟩ := hF
    have D6 : L 6 = true := hd ⟨6, Go.Ground.data⟩ (by simp) rfl
    have D9 : L 9 = true := hd ⟨9, Go.Ground.data⟩ (by simp) rfl
    have D2 : L 2 = true := hd ⟨2, Go.Ground.guard⟩ (by simp) rfl
    have E2 : v 2 = .bool false := f2 D2
    rw [if_neg (by rw [Inv.wanted_of (b := false) rfl rfl rfl ((hin 2 _ _ rfl rfl).trans E2)]; decide)]
    exact hK.out _ W ⟨HM, f0, f1, f2, f3, f4, f5, f6, f7, f8, f9, fun _ => rfl, f11, f12, f13, f14⟩
  · intro L v W a1 hF hn hd hin hout K hK
    obtain ⟨HM, f0, f1, f2, f3, f4, f5, f6, f7, f8, f9, f10, f11, f12, f13, f14⟩ := hF
    have D10 : L 10 = true := hd ⟨10, Go.Ground.data⟩ (by simp) rfl
    have D2 : L 2 = true := hd ⟨2, Go.Ground.guard⟩ (by simp) rfl
    have E2 : v 2 = .bool false := f2 D2
    rw [if_neg (by rw [Inv.wanted_of (b := false) rfl rfl rfl ((hin 2 _ _ rfl rfl).trans E2)]; decide)]
    exact hK.out _ W ⟨HM, f0, f1, f2, f3, f4, f5, f6, f7, f8, f9, f10, fun _ => rfl, f12, f13, f14⟩
  · intro L v W a1 hF hn hd hin hout K hK
    obtain ⟨HM, f0, f1, f2, f3, f4, f5, f6, f7, f8, f9, f10, f11, f12, f13, f14⟩ := hF
    have D11 : L 11 = true := hd ⟨11, Go.Ground.data⟩ (by simp) rfl
    have D2 : L 2 = true := hd ⟨2, Go.Ground.guard⟩ (by simp) rfl
    have E2 : v 2 = .bool false := f2 D2
    rw [if_neg (by rw [Inv.wanted_of (b := false) rfl rfl rfl ((hin 2 _ _ rfl rfl).trans E2)]; decide)]
    exact hK.out _ W ⟨HM, f0, f1, f2, f3, f4, f5, f6, f7, f8, f9, f10, f11, fun _ => rfl, f13, f14⟩
  · intro L v W a1 hF hn hd hin hout K hK
    obtain ⟨HM, f0, f1, f2, f3, f4, f5, f6, f7, f8, f9, f10, f11, f12, f13, f14⟩ := hF
    have D2 : L 2 = true := hd ⟨2, Go.Ground.data⟩ (by simp) rfl
    have D12 : L 12 = true := hd ⟨12, Go.Ground.data⟩ (by simp) rfl
    rw [if_pos (by rfl)]
    have E2 : v 2 = .bool false := f2 D2
    exact Inv.wp_pick rfl ((hin 2 _ _ rfl rfl).trans E2) ((if_neg Bool.false_ne_true).trans rfl) (hK.out _ W ⟨HM, f0, f1, f2, f3, f4, f5, f6, f7, f8, f9, f10, f11, f12, fun _ => rfl, f14⟩)
  · intro L v W a1 hF hn hd hin hout K hK
    obtain ⟨HM, f0, f1, f2, f3, f4, f5, f6, f7, f8, f9, f10, f11, f12, f13, f14⟩ := hF
    have D13 : L 13 = true := hd ⟨13, Go.Ground.data⟩ (by simp) rfl
    have D2 : L 2 = true := hd ⟨2, Go.Ground.chain⟩ (by simp) rfl
    have D0 : L 0 = true := hd ⟨0, Go.Ground.phase⟩ (by simp) rfl
    have D1 : L 1 = true := hd ⟨1, Go.Ground.phase⟩ (by simp) rfl
    have D3 : L 3 = true := hd ⟨3, Go.Ground.phase⟩ (by simp) rfl
    have D4 : L 4 = true := hd ⟨4, Go.Ground.phase⟩ (by simp) rfl
    have D5 : L 5 = true := hd ⟨5, Go.Ground.phase⟩ (by simp) rfl
    have D6 : L 6 = true := hd ⟨6, Go.Ground.phase⟩ (by simp) rfl
    have D7 : L 7 = true := hd ⟨7, Go.Ground.phase⟩ (by simp) rfl
    have D8 : L 8 = true := hd ⟨8, Go.Ground.phase⟩ (by simp) rfl
    have D9 : L 9 = true := hd ⟨9, Go.Ground.phase⟩ (by simp) rfl
    have D10 : L 10 = true := hd ⟨10, Go.Ground.phase⟩ (by simp) rfl
    have D11 : L 11 = true := hd ⟨11, Go.Ground.phase⟩ (by simp) rfl
    have D12 : L 12 = true := hd ⟨12, Go.Ground.phase⟩ (by simp) rfl
    rw [if_pos (by rfl)]
    have E13 : v 13 = .bool false := f13 D13
    exact Inv.wp_move (.inr rfl) ((hin 13 _ _ rfl rfl).trans E13) (hK.out _ W ⟨HM, f0, f1, f2, f3, f4, f5, f6, f7, f8, f9, f10, f11, f12, f13, fun _ => rfl⟩)
  clear HM
  intro L v W2 hL hF
  obtain ⟨HM, f0, f1, f2, f3, f4, f5, f6, f7, f8, f9, f10, f11, f12, f13, f14⟩ := hF
  have D0 : L 0 = true := hL 0 rfl
  have D1 : L 1 = true := hL 1 rfl
  have D2 : L 2 = true := hL 2 rfl
  have D3 : L 3 = true := hL 3 rfl
  have D4 : L 4 = true := hL 4 rfl
  have D5 : L 5 = true := hL 5 rfl
  have D6 : L 6 = true := hL 6 rfl
  have D7 : L 7 = true := hL 7 rfl
  have D8 : L 8 = true := hL 8 rfl
  have D9 : L 9 = true := hL 9 rfl
  have D10 : L 10 = true := hL 10 rfl
  have D11 : L 11 = true := hL 11 rfl
  have D12 : L 12 = true := hL 12 rfl
  have D13 : L 13 = true := hL 13 rfl
  have D14 : L 14 = true := hL 14 rfl
  have E0 : v 0 = .agg #[.int .i16 x, .int .i16 y] := f0 D0
  have E1 : v 1 = .bool false := f1 D1
  have E2 : v 2 = .bool false := f2 D2
  have E3 : v 3 = undef := f3 D3
  have E4 : v 4 = undef := f4 D4
  have E5 : v 5 = undef := f5 D5
  have E6 : v 6 = undef := f6 D6
  have E7 : v 7 = undef := f7 D7
  have E8 : v 8 = undef := f8 D8
  have E9 : v 9 = undef := f9 D9
  have E10 : v 10 = undef := f10 D10
  have E11 : v 11 = undef := f11 D11
  have E12 : v 12 = undef := f12 D12
  have E13 : v 13 = .bool false := f13 D13
  have E14 : v 14 = .bool false := f14 D14
  simp only [Inv.putAll, Act.put, List.setIfInBounds_toArray, List.set_cons_zero, List.set_cons_succ, E0, E1, E2, E3, E4, E5, E6, E7, E8, E9, E10, E11, E12, E13, E14]
  clear f0 f1 f2 f3 f4 f5 f6 f7 f8 f9 f10 f11 f12 f13 f14 D0 D1 D2 D3 D4 D5 D6 D7 D8 D9 D10 D11 D12 D13 D14 hL E0 E1 E2 E3 E4 E5 E6 E7 E8 E9 E10 E11 E12 E13 E14
  obtain ⟨W, hWW⟩ : ∃ W, W = W2 := ⟨_, rfl⟩; subst hWW
  go_wp2_with fail
  simp [bodyPost, results, Try.results5, go_sem]
  exact ⟨_, rfl, rfl, HM.below⟩
theorem HasInkS (zs : List Int) (x y : Int) (w : World) (hs : Sh zs) :
    Calls Try.prog 5 #[.agg (shA zs), mk x y] w (Gives (isB (inkB zs x y)) w) := by
  unfold inkB
  cases ho : onF x y
  · exact HasInkS_off zs x y w hs.1 ho
  · obtain ⟨a, b, rfl, rfl, ha, hb⟩ := onF_true ho
    obtain ⟨z, hz⟩ : ∃ z, zs[b]? = some z := ⟨zs[b]'(by rw [hs.1]; exact hb), List.getElem?_eq_getElem _⟩
    have e : zs.getD b 0 = z := by simp [List.getD_eq_getElem?_getD, hz]
    simp only [Int.toNat_natCast, e, Bool.true_and]
    exact HasInkS_on zs a b z w hs ha hb hz
end Go.Proofs.Ytpamgilkdkpcdaa
