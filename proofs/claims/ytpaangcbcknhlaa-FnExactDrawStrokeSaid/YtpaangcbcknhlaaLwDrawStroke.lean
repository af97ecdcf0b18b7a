--## law
/- The law FnExactDrawStroke: for every input the function DrawStroke answers as its model, and the law returns true. No condition. -/
import Derived.Test.YtpaangcbcknhlaaOpen
import Derived.Test.YtpaangcbcknhlaaShtF
import Derived.Test.YtpaangcbcknhlaaShtE
import Derived.Test.YtpaangcbcknhlaaLopn
import Derived.Test.YtpaangcbcknhlaaFlw
namespace Go.Proofs.Ytpaangcbcknhlaa.lawExactDrawStroke
open Go.Mem Go.ChangeShapes Go.WideShapes Go.ChangeAt Go.RowKit Go.Flo
open Go.ChangeMaps (open_string shut_string)
set_option linter.unusedSimpArgs false
set_option linter.unusedVariables false
set_option maxRecDepth 20000

open Go.Inv
theorem sizeU {zs : List Int} (h : zs.length = 64) : (Value.agg (shA zs)).cells.size = 64 := by
  show (rU zs).toArray.size = 64
  simp [rU_len, h]

set_option maxHeartbeats 4000000 in
theorem walk (z0 : List Int) (s1 : S5) (w : World) (q0 : Sh z0) (q1 : wfK s1) :
    Calls Try.prog 9 #[.agg (shA z0), st s1.1 s1.2.1 s1.2.2.1 s1.2.2.2.1 s1.2.2.2.2] w (Gives (isB true) w) := by
  obtain ⟨rz, rc, hrl, hV⟩ : ∃ (rz : List Int) (rc : Int), rz.length = 64 ∧ drawV z0 [s1] = .tuple #[.agg (shA rz), .int .i64 rc] := by
    unfold drawV
    split
    · exact ⟨_, _, by rw [inkAll_len putI_len]; exact q0.1, rfl⟩
    · exact ⟨_, _, rfl, rfl⟩
  have HV : Aside (drawV z0 [s1] = .tuple #[.agg (shA rz), .int .i64 rc]) := hV
  clear hV
  have HM := Mem.start w
  have tk0 : True := trivial
  go_enter Try.func9, Try.ntmps9
  go_wp2_with (first | (clear tk0; refine Mem.wpList_box HM rfl rfl rfl rfl ?_; clear HM; intro p1 W1 hb1 HM) | (refine Mem.wpList_box HM rfl rfl rfl rfl ?_; clear HM; intro p2 W hb2 HM))
  have HM : Mem w W [] [(p2, [.int .i16 s1.1, .int .i16 s1.2.1, .int .i16 s1.2.2.1, .int .i16 s1.2.2.2.1, .int .i8 s1.2.2.2.2]), (p1, rU z0)] := HM
  refine Inv.wp_region_flow (F := fun L v W => Mem w W [] [(p2, [.int .i16 s1.1, .int .i16 s1.2.1, .int .i16 s1.2.2.1, .int .i16 s1.2.2.2.1, .int .i8 s1.2.2.2.2]), (p1, rU z0)] ∧ (L 0 = true → (v 0) = .agg (shA z0)) ∧ (L 1 = true → (v 1) = .agg (shA z0)) ∧ (L 2 = true → (v 2) = .agg #[.int .i16 s1.1, .int .i16 s1.2.1, .int .i16 s1.2.2.1, .int .i16 s1.2.2.2.1, .int .i8 s1.2.2.2.2]) ∧ (L 3 = true → (v 3) = .agg #[.int .i16 s1.1, .int .i16 s1.2.1, .int .i16 s1.2.2.1, .int .i16 s1.2.2.2.1, .int .i8 s1.2.2.2.2]) ∧ (L 4 = true → (v 4) = .tuple #[.agg (shA rz), .int .i64 rc]) ∧ (L 5 = true → (v 5) = .tuple #[.agg (shA rz), .int .i64 rc]) ∧ (L 6 = true → L 5 = true ∧ ∃ xs : Array Value, (v 5) = .tuple xs ∧ xs[0]? = some (v 6)) ∧ (L 7 = true → L 5 = true ∧ ∃ xs : Array Value, (v 5) = .tuple xs ∧ xs[1]? = some (v 7)) ∧ (L 8 = true → Box w W [(p2, [.int .i16 s1.1, .int .i16 s1.2.1, .int .i16 s1.2.2.1, .int .i16 s1.2.2.2.1, .int .i8 s1.2.2.2.2]), (p1, rU z0)] 64 (v 8)) ∧ (L 9 = true → L 8 = true ∧ L 6 = true ∧ Full w W [(p2, [.int .i16 s1.1, .int .i16 s1.2.1, .int .i16 s1.2.2.1, .int .i16 s1.2.2.2.1, .int .i8 s1.2.2.2.2]), (p1, rU z0)] 64 (v 8) (v 6)) ∧ (L 10 = true → L 7 = true ∧ (v 10) = (v 7))) (by kernel_rfl) (by kernel_rfl) (by kernel_rfl) (fun v => ⟨HM.drew, fun h => absurd h Bool.false_ne_true, fun h => absurd h Bool.false_ne_true, fun h => absurd h Bool.false_ne_true, fun h => absurd h Bool.false_ne_true, fun h => absurd h Bool.false_ne_true, fun h => absurd h Bool.false_ne_true, fun h => absurd h Bool.false_ne_true, fun h => absurd h Bool.false_ne_true, fun h => absurd h Bool.false_ne_true, fun h => absurd h Bool.false_ne_true, fun h => absurd h Bool.false_ne_true⟩) ⟨?_, ?_, ?_, ?_, ?_, ?_, ?_, ?_, ?_, ?_, ?_, trivial⟩ ?_
  · intro L v W a1 hF hn hd hin hout K hK
    obtain ⟨HM, f0, f1, f2, f3, f4, f5, f6, f7, f8, f9, f10⟩ := hF
    rw [if_pos (by rfl)]
    exact Mem.wp_load_row HM 64 rfl ((hout 2 rfl).trans rfl) (by kernel_rfl) (.inl (.tail _ (.head _))) (sub_all (by rw [rU_len]; exact q0.1)) (by rw [rU_len]; exact q0.1) (hK.out _ W ⟨HM, fun _ => rfl, f1, f2, f3, f4, f5, f6, f7, f8, f9, f10⟩)
  · intro L v W a1 hF hn hd hin hout K hK
    obtain ⟨HM, f0, f1, f2, f3, f4, f5, f6, f7, f8, f9, f10⟩ := hF
    have D0 : L 0 = true := hd ⟨0, Go.Ground.data⟩ (by simp) rfl
    rw [if_pos (by rfl)]
    have E0 : v 0 = .agg (shA z0) := f0 D0
    refine Inv.wp_call rfl rfl rfl #[.agg (shA z0)] (by simp only [List.map_toArray, List.map_cons, List.map_nil, ((hin 0 _ _ rfl rfl).trans E0)]) (by kernel_rfl) ((toSheetA z0 q0.1 W).mono ?_)
    rintro e W' ⟨_, rfl, rfl, hb⟩
    exact ⟨_, rfl, hK.out _ W' ⟨(HM.call hb), f0, fun _ => rfl, f2, f3, f4, f5, f6, f7, fun h => Box.call (f8 h) hb, fun h => ⟨(f9 h).1, (f9 h).2.1, Full.call (f9 h).2.2 hb⟩, f10⟩⟩
  · intro L v W a1 hF hn hd hin hout K hK
    obtain ⟨HM, f0, f1, f2, f3, f4, f5, f6, f7, f8, f9, f10⟩ := hF
    rw [if_pos (by rfl)]
    exact Mem.wp_load_row HM 5 rfl ((hout 3 rfl).trans rfl) (by kernel_rfl) (.inl (.head _)) rfl rfl (hK.out _ W ⟨HM, f0, f1, fun _ => rfl, f3, f4, f5, f6, f7, f8, f9, f10⟩)
  · intro L v W a1 hF hn hd hin hout K hK
    obtain ⟨HM, f0, f1, f2, f3, f4, f5, f6, f7, f8, f9, f10⟩ := hF
    have D2 : L 2 = true := hd ⟨2, Go.Ground.data⟩ (by simp) rfl
    have D1 : L 1 = true := hd ⟨1, Go.Ground.chain⟩ (by simp) rfl
    rw [if_pos (by rfl)]
    have E2 : v 2 = .agg #[.int .i16 s1.1, .int .i16 s1.2.1, .int .i16 s1.2.2.1, .int .i16 s1.2.2.2.1, .int .i8 s1.2.2.2.2] := f2 D2
    refine Inv.wp_call rfl rfl rfl #[.agg #[.int .i16 s1.1, .int .i16 s1.2.1, .int .i16 s1.2.2.1, .int .i16 s1.2.2.2.1, .int .i8 s1.2.2.2.2]] (by simp only [List.map_toArray, List.map_cons, List.map_nil, ((hin 2 _ _ rfl rfl).trans E2)]) (by kernel_rfl) ((toStrokeA s1.1 s1.2.1 s1.2.2.1 s1.2.2.2.1 s1.2.2.2.2 W).mono ?_)
    rintro e W' ⟨_, rfl, rfl, hb⟩
    exact ⟨_, rfl, hK.out _ W' ⟨(HM.call hb), f0, f1, f2, fun _ => rfl, f4, f5, f6, f7, fun h => Box.call (f8 h) hb, fun h => ⟨(f9 h).1, (f9 h).2.1, Full.call (f9 h).2.2 hb⟩, f10⟩⟩
  · intro L v W a1 hF hn hd hin hout K hK
    obtain ⟨HM, f0, f1, f2, f3, f4, f5, f6, f7, f8, f9, f10⟩ := hF
    have D1 : L 1 = true := hd ⟨1, Go.Ground.data⟩ (by simp) rfl
    have D3 : L 3 = true := hd ⟨3, Go.Ground.data⟩ (by simp) rfl
    rw [if_pos (by rfl)]
    have E1 : v 1 = .agg (shA z0) := f1 D1
    have E3 : v 3 = .agg #[.int .i16 s1.1, .int .i16 s1.2.1, .int .i16 s1.2.2.1, .int .i16 s1.2.2.2.1, .int .i8 s1.2.2.2.2] := f3 D3
    refine Inv.wp_call rfl rfl rfl #[.agg (shA z0), .agg #[.int .i16 s1.1, .int .i16 s1.2.1, .int .i16 s1.2.2.1, .int .i16 s1.2.2.2.1, .int .i8 s1.2.2.2.2]] (by simp only [List.map_toArray, List.map_cons, List.map_nil, ((hin 1 _ _ rfl rfl).trans E1), ((hin 3 _ _ rfl rfl).trans E3)]) (by kernel_rfl) ((DrawStrokeS z0 s1 W q0.1 q1).mono ?_)
    rintro e W' ⟨_, rfl, rfl, hb⟩
    exact ⟨_, rfl, hK.out _ W' ⟨(HM.call hb), f0, f1, f2, f3, fun _ => HV.out, f5, f6, f7, fun h => Box.call (f8 h) hb, fun h => ⟨(f9 h).1, (f9 h).2.1, Full.call (f9 h).2.2 hb⟩, f10⟩⟩
  · intro L v W a1 hF hn hd hin hout K hK
    obtain ⟨HM, f0, f1, f2, f3, f4, f5, f6, f7, f8, f9, f10⟩ := hF
    have D4 : L 4 = true := hd ⟨4, Go.Ground.data⟩ (by simp) rfl
    rw [if_pos (by rfl)]
    have E4 : v 4 = .tuple #[.agg (shA rz), .int .i64 rc] := f4 D4
    exact Inv.wp_move (.inl rfl) ((hin 4 _ _ rfl rfl).trans E4) (hK.out _ W ⟨HM, f0, f1, f2, f3, f4, fun _ => rfl, fun h => absurd (f6 h).1 (by rw [hn]; exact Bool.false_ne_true), fun h => absurd (f7 h).1 (by rw [hn]; exact Bool.false_ne_true), f8, f9, f10⟩)
  · intro L v W a1 hF hn hd hin hout K hK
    obtain ⟨HM, f0, f1, f2, f3, f4, f5, f6, f7, f8, f9, f10⟩ := hF
    have D5 : L 5 = true := hd ⟨5, Go.Ground.data⟩ (by simp) rfl
    rw [if_pos (by rfl)]
    have E5 : v 5 = .tuple #[.agg (shA rz), .int .i64 rc] := f5 D5
    exact Inv.wp_extract (u := .agg (shA rz)) rfl ((hin 5 _ _ rfl rfl).trans E5) rfl (hK.out _ W ⟨HM, f0, f1, f2, f3, f4, f5, fun _ => ⟨D5, _, E5, rfl⟩, f7, f8, fun h => absurd (f9 h).2.1 (by rw [hn]; exact Bool.false_ne_true), f10⟩)
  · intro L v W a1 hF hn hd hin hout K hK
    obtain ⟨HM, f0, f1, f2, f3, f4, f5, f6, f7, f8, f9, f10⟩ := hF
    have D5 : L 5 = true := hd ⟨5, Go.Ground.data⟩ (by simp) rfl
    rw [if_pos (by rfl)]
    have E5 : v 5 = .tuple #[.agg (shA rz), .int .i64 rc] := f5 D5
    exact Inv.wp_extract (u := .int .i64 rc) rfl ((hin 5 _ _ rfl rfl).trans E5) rfl (hK.out _ W ⟨HM, f0, f1, f2, f3, f4, f5, f6, fun _ => ⟨D5, _, E5, rfl⟩, f8, f9, fun h => absurd (f10 h).1 (by rw [hn]; exact Bool.false_ne_true)⟩)
  · intro L v W a1 hF hn hd hin hout K hK
    obtain ⟨HM, f0, f1, f2, f3, f4, f5, f6, f7, f8, f9, f10⟩ := hF
    rw [if_pos (by rfl)]
    refine Mem.wp_alloc_box (v := .agg (shA zero64)) (n := 64) HM rfl (fun _ => by kernel_rfl) rfl fun u W' HM' hb hB hne => ?_
    exact hK.out _ W' ⟨HM', f0, f1, f2, f3, f4, f5, f6, f7, fun _ => hB, fun h => absurd (f9 h).1 (by rw [hn]; exact Bool.false_ne_true), f10⟩
  · intro L v W a1 hF hn hd hin hout K hK
    obtain ⟨HM, f0, f1, f2, f3, f4, f5, f6, f7, f8, f9, f10⟩ := hF
    have D8 : L 8 = true := hd ⟨8, Go.Ground.data⟩ (by simp) rfl
    have D6 : L 6 = true := hd ⟨6, Go.Ground.data⟩ (by simp) rfl
    have D4 : L 4 = true := hd ⟨4, Go.Ground.chain⟩ (by simp) rfl
    have D0 : L 0 = true := hd ⟨0, Go.Ground.phase⟩ (by simp) rfl
    have D1 : L 1 = true := hd ⟨1, Go.Ground.phase⟩ (by simp) rfl
    have D2 : L 2 = true := hd ⟨2, Go.Ground.phase⟩ (by simp) rfl
    have D3 : L 3 = true := hd ⟨3, Go.Ground.phase⟩ (by simp) rfl
    have D5 : L 5 = true := hd ⟨5, Go.Ground.phase⟩ (by simp) rfl
    rw [if_pos (by rfl)]
    obtain ⟨_, xs6, A6, B6⟩ := f6 D6
    have E5 : v 5 = .tuple #[.agg (shA rz), .int .i64 rc] := f5 D5
    rw [E5] at A6
    cases A6
    have E6 : v 6 = .agg (shA rz) := (Option.some.inj B6).symm
    refine Mem.wp_store_box (n := 64) HM (f8 D8) rfl (hin 8 _ _ rfl rfl) (hin 6 _ _ rfl rfl) (by rw [E6]; exact sizeU hrl) (by kernel_rfl) (by rw [E6]; exact oneU rz) fun W' HM' hF t1 t2 => ?_
    exact hK.out _ W' ⟨HM', f0, f1, f2, f3, f4, f5, f6, f7, fun h => t1 _ _ ((f8 h)), fun _ => ⟨D8, D6, hF⟩, f10⟩
  · intro L v W a1 hF hn hd hin hout K hK
    obtain ⟨HM, f0, f1, f2, f3, f4, f5, f6, f7, f8, f9, f10⟩ := hF
    have D7 : L 7 = true := hd ⟨7, Go.Ground.data⟩ (by simp) rfl
    have D9 : L 9 = true := hd ⟨9, Go.Ground.chain⟩ (by simp) rfl
    have D0 : L 0 = true := hd ⟨0, Go.Ground.phase⟩ (by simp) rfl
    have D1 : L 1 = true := hd ⟨1, Go.Ground.phase⟩ (by simp) rfl
    have D2 : L 2 = true := hd ⟨2, Go.Ground.phase⟩ (by simp) rfl
    have D3 : L 3 = true := hd ⟨3, Go.Ground.phase⟩ (by simp) rfl
    have D4 : L 4 = true := hd ⟨4, Go.Ground.phase⟩ (by simp) rfl
    have D5 : L 5 = true := hd ⟨5, Go.Ground.phase⟩ (by simp) rfl
    have D6 : L 6 = true := hd ⟨6, Go.Ground.phase⟩ (by simp) rfl
    have D8 : L 8 = true := hd ⟨8, Go.Ground.phase⟩ (by simp) rfl
    rw [if_pos (by rfl)]
    exact Inv.wp_move (.inr rfl) (hin 7 _ _ rfl rfl) (hK.out _ W ⟨HM, f0, f1, f2, f3, f4, f5, f6, f7, f8, f9, fun _ => ⟨D7, rfl⟩⟩)
  clear HM
  intro L v W2 hL hF
  obtain ⟨HM, f0, f1, f2, f3, f4, f5, f6, f7, f8, f9, f10⟩ := hF
  have D0 : L 0 = true := hL 0 rfl
  have D1 : L 1 = true := hL 1 rfl
  have D2 : L 2 = true := hL 2 rfl
  have D3 : L 3 = true := hL 3 rfl
  have D4 : L 4 = true := hL 4 rfl
  have D5 : L 5 = true := hL 5 rfl
  have D6 : L 6 = true := hL 6 rfl
  have D7 : L 7 = true := hL 7 rfl
  have D8 : L 8 = true := hL 8 rfl
  have D9 : L 9 = true := hL 9 rfl
  have D10 : L 10 = true := hL 10 rfl
  have E0 : v 0 = .agg (shA z0) := f0 D0
  have E1 : v 1 = .agg (shA z0) := f1 D1
  have E2 : v 2 = .agg #[.int .i16 s1.1, .int .i16 s1.2.1, .int .i16 s1.2.2.1, .int .i16 s1.2.2.2.1, .int .i8 s1.2.2.2.2] := f2 D2
  have E3 : v 3 = .agg #[.int .i16 s1.1, .int .i16 s1.2.1, .int .i16 s1.2.2.1, .int .i16 s1.2.2.2.1, .int .i8 s1.2.2.2.2] := f3 D3
  have E4 : v 4 = .tuple #[.agg (shA rz), .int .i64 rc] := f4 D4
  have E5 : v 5 = .tuple #[.agg (shA rz), .int .i64 rc] := f5 D5
  obtain ⟨_, xs6, A6, B6⟩ := f6 D6
  rw [E5] at A6
  cases A6
  have E6 : v 6 = .agg (shA rz) := (Option.some.inj B6).symm
  obtain ⟨_, xs7, A7, B7⟩ := f7 D7
  rw [E5] at A7
  cases A7
  have E7 : v 7 = .int .i64 rc := (Option.some.inj B7).symm
  have T10 := f10 D10
  have E10 : v 10 = .int .i64 rc := T10.2.trans E7
  obtain ⟨ga8, E8, HM⟩ := HM.add ((f9 D9).2.2)
  rw [E6] at HM
  simp only [Inv.putAll, Act.put, List.setIfInBounds_toArray, List.set_cons_zero, List.set_cons_succ, E0, E1, E2, E3, E4, E5, E6, E7, E8, E10]
  clear f0 f1 f2 f3 f4 f5 f6 f7 f8 f9 f10 D0 D1 D2 D3 D4 D5 D6 D7 D8 D9 D10 hL E0 E1 E2 E3 E4 E5 E6 E7 E8 E10
  obtain ⟨W, hWW⟩ : ∃ W, W = W2 := ⟨_, rfl⟩; subst hWW
  have HM : Mem w W [] [(ga8, rU rz), (p2, [.int .i16 s1.1, .int .i16 s1.2.1, .int .i16 s1.2.2.1, .int .i16 s1.2.2.2.1, .int .i8 s1.2.2.2.2]), (p1, rU z0)] := HM
  go_wp2_with fail
  refine Inv.wp_region_flow (F := fun L v W => Mem w W [] [(ga8, rU rz), (p2, [.int .i16 s1.1, .int .i16 s1.2.1, .int .i16 s1.2.2.1, .int .i16 s1.2.2.2.1, .int .i8 s1.2.2.2.2]), (p1, rU z0)] ∧ (L 0 = true → (v 0) = .agg (shA z0)) ∧ (L 1 = true → (v 1) = .agg (shA z0)) ∧ (L 2 = true → (v 2) = .agg #[.int .i16 s1.1, .int .i16 s1.2.1, .int .i16 s1.2.2.1, .int .i16 s1.2.2.2.1, .int .i8 s1.2.2.2.2]) ∧ (L 3 = true → (v 3) = .agg #[.int .i16 s1.1, .int .i16 s1.2.1, .int .i16 s1.2.2.1, .int .i16 s1.2.2.2.1, .int .i8 s1.2.2.2.2]) ∧ (L 4 = true → (v 4) = .tuple #[.agg (shA rz), .int .i64 rc]) ∧ (L 5 = true → (v 5) = .tuple #[.agg (shA rz), .int .i64 rc]) ∧ (L 6 = true → L 5 = true ∧ ∃ xs : Array Value, (v 5) = .tuple xs ∧ xs[0]? = some (v 6)) ∧ (L 7 = true → L 5 = true ∧ ∃ xs : Array Value, (v 5) = .tuple xs ∧ xs[1]? = some (v 7)) ∧ (L 8 = true → Box w W [(ga8, rU rz), (p2, [.int .i16 s1.1, .int .i16 s1.2.1, .int .i16 s1.2.2.1, .int .i16 s1.2.2.2.1, .int .i8 s1.2.2.2.2]), (p1, rU z0)] 64 (v 8)) ∧ (L 9 = true → L 8 = true ∧ L 6 = true ∧ Full w W [(ga8, rU rz), (p2, [.int .i16 s1.1, .int .i16 s1.2.1, .int .i16 s1.2.2.1, .int .i16 s1.2.2.2.1, .int .i8 s1.2.2.2.2]), (p1, rU z0)] 64 (v 8) (v 6)) ∧ (L 10 = true → L 7 = true ∧ (v 10) = (v 7))) (by kernel_rfl) (by kernel_rfl) (by kernel_rfl) (fun v => ⟨HM.drew, fun h => absurd h Bool.false_ne_true, fun h => absurd h Bool.false_ne_true, fun h => absurd h Bool.false_ne_true, fun h => absurd h Bool.false_ne_true, fun h => absurd h Bool.false_ne_true, fun h => absurd h Bool.false_ne_true, fun h => absurd h Bool.false_ne_true, fun h => absurd h Bool.false_ne_true, fun h => absurd h Bool.false_ne_true, fun h => absurd h Bool.false_ne_true, fun h => absurd h Bool.false_ne_true⟩) ⟨?_, ?_, ?_, ?_, ?_, ?_, ?_, ?_, ?_, ?_, ?_, trivial⟩ ?_
  · intro L v W a1 hF hn hd hin hout K hK
    obtain ⟨HM, f0, f1, f2, f3, f4, f5, f6, f7, f8, f9, f10⟩ := hF
    rw [if_pos (by rfl)]
    exact Mem.wp_load_row HM 64 rfl ((hout 2 rfl).trans rfl) (by kernel_rfl) (.inl (.tail _ (.tail _ (.head _)))) (sub_all (by rw [rU_len]; exact q0.1)) (by rw [rU_len]; exact q0.1) (hK.out _ W ⟨HM, fun _ => rfl, f1, f2, f3, f4, f5, f6, f7, f8, f9, f10⟩)
  · intro L v W a1 hF hn hd hin hout K hK
    obtain ⟨HM, f0, f1, f2, f3, f4, f5, f6, f7, f8, f9, f10⟩ := hF
    have D0 : L 0 = true := hd ⟨0, Go.Ground.data⟩ (by simp) rfl
    rw [if_pos (by rfl)]
    have E0 : v 0 = .agg (shA z0) := f0 D0
    refine Inv.wp_call rfl rfl rfl #[.agg (shA z0)] (by simp only [List.map_toArray, List.map_cons, List.map_nil, ((hin 0 _ _ rfl rfl).trans E0)]) (by kernel_rfl) ((toSheetA z0 q0.1 W).mono ?_)
    rintro e W' ⟨_, rfl, rfl, hb⟩
    exact ⟨_, rfl, hK.out _ W' ⟨(HM.call hb), f0, fun _ => rfl, f2, f3, f4, f5, f6, f7, fun h => Box.call (f8 h) hb, fun h => ⟨(f9 h).1, (f9 h).2.1, Full.call (f9 h).2.2 hb⟩, f10⟩⟩
  · intro L v W a1 hF hn hd hin hout K hK
    obtain ⟨HM, f0, f1, f2, f3, f4, f5, f6, f7, f8, f9, f10⟩ := hF
    rw [if_pos (by rfl)]
    exact Mem.wp_load_row HM 5 rfl ((hout 3 rfl).trans rfl) (by kernel_rfl) (.inl (.tail _ (.head _))) rfl rfl (hK.out _ W ⟨HM, f0, f1, fun _ => rfl, f3, f4, f5, f6, f7, f8, f9, f10⟩)
  · intro L v W a1 hF hn hd hin hout K hK
    obtain ⟨HM, f0, f1, f2, f3, f4, f5, f6, f7, f8, f9, f10⟩ := hF
    have D2 : L 2 = true := hd ⟨2, Go.Ground.data⟩ (by simp) rfl
    have D1 : L 1 = true := hd ⟨1, Go.Ground.chain⟩ (by simp) rfl
    rw [if_pos (by rfl)]
    have E2 : v 2 = .agg #[.int .i16 s1.1, .int .i16 s1.2.1, .int .i16 s1.2.2.1, .int .i16 s1.2.2.2.1, .int .i8 s1.2.2.2.2] := f2 D2
    refine Inv.wp_call rfl rfl rfl #[.agg #[.int .i16 s1.1, .int .i16 s1.2.1, .int .i16 s1.2.2.1, .int .i16 s1.2.2.2.1, .int .i8 s1.2.2.2.2]] (by simp only [List.map_toArray, List.map_cons, List.map_nil, ((hin 2 _ _ rfl rfl).trans E2)]) (by kernel_rfl) ((toStrokeA s1.1 s1.2.1 s1.2.2.1 s1.2.2.2.1 s1.2.2.2.2 W).mono ?_)
    rintro e W' ⟨_, rfl, rfl, hb⟩
    exact ⟨_, rfl, hK.out _ W' ⟨(HM.call hb), f0, f1, f2, fun _ => rfl, f4, f5, f6, f7, fun h => Box.call (f8 h) hb, fun h => ⟨(f9 h).1, (f9 h).2.1, Full.call (f9 h).2.2 hb⟩, f10⟩⟩
  · intro L v W a1 hF hn hd hin hout K hK
    obtain ⟨HM, f0, f1, f2, f3, f4, f5, f6, f7, f8, f9, f10⟩ := hF
    have D1 : L 1 = true := hd ⟨1, Go.Ground.data⟩ (by simp) rfl
    have D3 : L 3 = true := hd ⟨3, Go.Ground.data⟩ (by simp) rfl
    rw [if_pos (by rfl)]
    have E1 : v 1 = .agg (shA z0) := f1 D1
    have E3 : v 3 = .agg #[.int .i16 s1.1, .int .i16 s1.2.1, .int .i16 s1.2.2.1, .int .i16 s1.2.2.2.1, .int .i8 s1.2.2.2.2] := f3 D3
    refine Inv.wp_call rfl rfl rfl #[.agg (shA z0), .agg #[.int .i16 s1.1, .int .i16 s1.2.1, .int .i16 s1.2.2.1, .int .i16 s1.2.2.2.1, .int .i8 s1.2.2.2.2]] (by simp only [List.map_toArray, List.map_cons, List.map_nil, ((hin 1 _ _ rfl rfl).trans E1), ((hin 3 _ _ rfl rfl).trans E3)]) (by kernel_rfl) ((DrawStrokeI z0 s1 W q0.1 q1).mono ?_)
    rintro e W' ⟨_, rfl, rfl, hb⟩
    exact ⟨_, rfl, hK.out _ W' ⟨(HM.call hb), f0, f1, f2, f3, fun _ => HV.out, f5, f6, f7, fun h => Box.call (f8 h) hb, fun h => ⟨(f9 h).1, (f9 h).2.1, Full.call (f9 h).2.2 hb⟩, f10⟩⟩
  · intro L v W a1 hF hn hd hin hout K hK
    obtain ⟨HM, f0, f1, f2, f3, f4, f5, f6, f7, f8, f9, f10⟩ := hF
    have D4 : L 4 = true := hd ⟨4, Go.Ground.data⟩ (by simp) rfl
    rw [if_pos (by rfl)]
    have E4 : v 4 = .tuple #[.agg (shA rz), .int .i64 rc] := f4 D4
    exact Inv.wp_move (.inl rfl) ((hin 4 _ _ rfl rfl).trans E4) (hK.out _ W ⟨HM, f0, f1, f2, f3, f4, fun _ => rfl, fun h => absurd (f6 h).1 (by rw [hn]; exact Bool.false_ne_true), fun h => absurd (f7 h).1 (by rw [hn]; exact Bool.false_ne_true), f8, f9, f10⟩)
  · intro L v W a1 hF hn hd hin hout K hK
    obtain ⟨HM, f0, f1, f2, f3, f4, f5, f6, f7, f8, f9, f10⟩ := hF
    have D5 : L 5 = true := hd ⟨5, Go.Ground.data⟩ (by simp) rfl
    rw [if_pos (by rfl)]
    have E5 : v 5 = .tuple #[.agg (shA rz), .int .i64 rc] := f5 D5
    exact Inv.wp_extract (u := .agg (shA rz)) rfl ((hin 5 _ _ rfl rfl).trans E5) rfl (hK.out _ W ⟨HM, f0, f1, f2, f3, f4, f5, fun _ => ⟨D5, _, E5, rfl⟩, f7, f8, fun h => absurd (f9 h).2.1 (by rw [hn]; exact Bool.false_ne_true), f10⟩)
  · intro L v W a1 hF hn hd hin hout K hK
    obtain ⟨HM, f0, f1, f2, f3, f4, f5, f6, f7, f8, f9, f10⟩ := hF
    have D5 : L 5 = true := hd ⟨5, Go.Ground.data⟩ (by simp) rfl
    rw [if_pos (by rfl)]
    have E5 : v 5 = .tuple #[.agg (shA rz), .int .i64 rc] := f5 D5
    exact Inv.wp_extract (u := .int .i64 rc) rfl ((hin 5 _ _ rfl rfl).trans E5) rfl (hK.out _ W ⟨HM, f0, f1, f2, f3, f4, f5, f6, fun _ => ⟨D5, _, E5, rfl⟩, f8, f9, fun h => absurd (f10 h).1 (by rw [hn]; exact Bool.false_ne_true)⟩)
  · intro L v W a1 hF hn hd hin hout K hK
    obtain ⟨HM, f0, f1, f2, f3, f4, f5, f6, f7, f8, f9, f10⟩ := hF
    rw [if_pos (by rfl)]
    refine Mem.wp_alloc_box (v := .agg (shA zero64)) (n := 64) HM rfl (fun _ => by kernel_rfl) rfl fun u W' HM' hb hB hne => ?_
    exact hK.out _ W' ⟨HM', f0, f1, f2, f3, f4, f5, f6, f7, fun _ => hB, fun h => absurd (f9 h).1 (by rw [hn]; exact Bool.false_ne_true), f10⟩
  · intro L v W a1 hF hn hd hin hout K hK
    obtain ⟨HM, f0, f1, f2, f3, f4, f5, f6, f7, f8, f9, f10⟩ := hF
    have D8 : L 8 = true := hd ⟨8, Go.Ground.data⟩ (by simp) rfl
    have D6 : L 6 = true := hd ⟨6, Go.Ground.data⟩ (by simp) rfl
    have D4 : L 4 = true := hd ⟨4, Go.Ground.chain⟩ (by simp) rfl
    have D0 : L 0 = true := hd ⟨0, Go.Ground.phase⟩ (by simp) rfl
    have D1 : L 1 = true := hd ⟨1, Go.Ground.phase⟩ (by simp) rfl
    have D2 : L 2 = true := hd ⟨2, Go.Ground.phase⟩ (by simp) rfl
    have D3 : L 3 = true := hd ⟨3, Go.Ground.phase⟩ (by simp) rfl
    have D5 : L 5 = true := hd ⟨5, Go.Ground.phase⟩ (by simp) rfl
    rw [if_pos (by rfl)]
    obtain ⟨_, xs6, A6, B6⟩ := f6 D6
    have E5 : v 5 = .tuple #[.agg (shA rz), .int .i64 rc] := f5 D5
    rw [E5] at A6
    cases A6
    have E6 : v 6 = .agg (shA rz) := (Option.some.inj B6).symm
    refine Mem.wp_store_box (n := 64) HM (f8 D8) rfl (hin 8 _ _ rfl rfl) (hin 6 _ _ rfl rfl) (by rw [E6]; exact sizeU hrl) (by kernel_rfl) (by rw [E6]; exact oneU rz) fun W' HM' hF t1 t2 => ?_
    exact hK.out _ W' ⟨HM', f0, f1, f2, f3, f4, f5, f6, f7, fun h => t1 _ _ ((f8 h)), fun _ => ⟨D8, D6, hF⟩, f10⟩
  · intro L v W a1 hF hn hd hin hout K hK
    obtain ⟨HM, f0, f1, f2, f3, f4, f5, f6, f7, f8, f9, f10⟩ := hF
    have D7 : L 7 = true := hd ⟨7, Go.Ground.data⟩ (by simp) rfl
    have D9 : L 9 = true := hd ⟨9, Go.Ground.chain⟩ (by simp) rfl
    have D0 : L 0 = true := hd ⟨0, Go.Ground.phase⟩ (by simp) rfl
    have D1 : L 1 = true := hd ⟨1, Go.Ground.phase⟩ (by simp) rfl
    have D2 : L 2 = true := hd ⟨2, Go.Ground.phase⟩ (by simp) rfl
    have D3 : L 3 = true := hd ⟨3, Go.Ground.phase⟩ (by simp) rfl
    have D4 : L 4 = true := hd ⟨4, Go.Ground.phase⟩ (by simp) rfl
    have D5 : L 5 = true := hd ⟨5, Go.Ground.phase⟩ (by simp) rfl
    have D6 : L 6 = true := hd ⟨6, Go.Ground.phase⟩ (by simp) rfl
    have D8 : L 8 = true := hd ⟨8, Go.Ground.phase⟩ (by simp) rfl
    rw [if_pos (by rfl)]
    exact Inv.wp_move (.inr rfl) (hin 7 _ _ rfl rfl) (hK.out _ W ⟨HM, f0, f1, f2, f3, f4, f5, f6, f7, f8, f9, fun _ => ⟨D7, rfl⟩⟩)
  clear HM
  intro L v W2 hL hF
  obtain ⟨HM, f0, f1, f2, f3, f4, f5, f6, f7, f8, f9, f10⟩ := hF
  have D0 : L 0 = true := hL 0 rfl
  have D1 : L 1 = true := hL 1 rfl
  have D2 : L 2 = true := hL 2 rfl
  have D3 : L 3 = true := hL 3 rfl
  have D4 : L 4 = true := hL 4 rfl
  have D5 : L 5 = true := hL 5 rfl
  have D6 : L 6 = true := hL 6 rfl
  have D7 : L 7 = true := hL 7 rfl
  have D8 : L 8 = true := hL 8 rfl
  have D9 : L 9 = true := hL 9 rfl
  have D10 : L 10 = true := hL 10 rfl
  have E0 : v 0 = .agg (shA z0) := f0 D0
  have E1 : v 1 = .agg (shA z0) := f1 D1
  have E2 : v 2 = .agg #[.int .i16 s1.1, .int .i16 s1.2.1, .int .i16 s1.2.2.1, .int .i16 s1.2.2.2.1, .int .i8 s1.2.2.2.2] := f2 D2
  have E3 : v 3 = .agg #[.int .i16 s1.1, .int .i16 s1.2.1, .int .i16 s1.2.2.1, .int .i16 s1.2.2.2.1, .int .i8 s1.2.2.2.2] := f3 D3
  have E4 : v 4 = .tuple #[.agg (shA rz), .int .i64 rc] := f4 D4
  have E5 : v 5 = .tuple #[.agg (shA rz), .int .i64 rc] := f5 D5
  obtain ⟨_, xs6, A6, B6⟩ := f6 D6
  rw [E5] at A6
  cases A6
  have E6 : v 6 = .agg (shA rz) := (Option.some.inj B6).symm
  obtain ⟨_, xs7, A7, B7⟩ := f7 D7
  rw [E5] at A7
  cases A7
  have E7 : v 7 = .int .i64 rc := (Option.some.inj B7).symm
  have T10 := f10 D10
  have E10 : v 10 = .int .i64 rc := T10.2.trans E7
  obtain ⟨gb8, E8, HM⟩ := HM.add ((f9 D9).2.2)
  rw [E6] at HM
  simp only [Inv.putAll, Act.put, List.setIfInBounds_toArray, List.set_cons_zero, List.set_cons_succ, E0, E1, E2, E3, E4, E5, E6, E7, E8, E10]
  clear f0 f1 f2 f3 f4 f5 f6 f7 f8 f9 f10 D0 D1 D2 D3 D4 D5 D6 D7 D8 D9 D10 hL E0 E1 E2 E3 E4 E5 E6 E7 E8 E10
  obtain ⟨W, hWW⟩ : ∃ W, W = W2 := ⟨_, rfl⟩; subst hWW
  have HM : Mem w W [] [(gb8, rU rz), (ga8, rU rz), (p2, [.int .i16 s1.1, .int .i16 s1.2.1, .int .i16 s1.2.2.1, .int .i16 s1.2.2.2.1, .int .i8 s1.2.2.2.2]), (p1, rU z0)] := HM
  have tk1 : True := trivial
  go_wp2_with (first | (clear tk1; refine Mem.wpList_load_row HM 64 rfl rfl rfl row_sheet (.inl (.head _)) (sub_all (by rw [rU_len]; exact hrl)) (by rw [rU_len]; exact hrl) ?_) | (refine Mem.wpList_load_row HM 64 rfl rfl rfl row_sheet (.inl (.tail _ (.head _))) (sub_all (by rw [rU_len]; exact hrl)) (by rw [rU_len]; exact hrl) ?_) | (go_at_call 41; refine (eqSheetA rz hrl _).mono ?_; rintro e w13 ⟨_, rfl, rfl, hb13⟩; have HM13 := HM.call hb13; clear HM))
  all_goals
    simp [bodyPost, results, Try.results9, go_sem]
    exact ⟨_, rfl, rfl, HM13.below⟩


set_option maxRecDepth 100000 in
theorem lifted (os : Os) (started : os.Started) (H : Type) (enc : TypeId × Value → H) :
    ReturnsInHanded {} Try.checked os 9 .any (Rows.fnExactDrawStrokeSpec.pre6 enc Try.prog Try.f9 Rows.fnExactDrawStrokeRow.domain false) (Rows.fnExactDrawStrokeSpec.post enc Try.prog Try.f9 false true false false) := by
  refine returnsInHanded_of_change (C := Try.checked) own started (by kernel_rfl) Try.func9
    (ChangeSpec.witness6 (enc := enc) (C := Try.checked) false ⟨#[], #[.agg (shA (List.replicate 64 0)), st 0 0 0 0 0], []⟩ 8 (by kernel_rfl) (by kernel_rfl) (by kernel_rfl) (by kernel_rfl)) ?_
  intro W base args ds gs before hval0 hW hcnd _
  have hval : ∀ (j : Nat) t v, Try.f9.params[j]? = some t → args[j]? = some v → Value.okWide Try.prog W .any base t v := hval0
  have hW' := hW
  obtain ⟨p, q, hA0, hV, rfl, hfz, hnd⟩ := hW
  have hA : DataW.TrodAll enc Try.prog W 0 (fun _ => true) true Try.f9.params.toList args.toList ds p := hA0
  rw [Try.params9] at hA hval
  obtain ⟨v0, vs0, d0, ds0, p0, q0, hargs, rfl, rfl, h0, r0⟩ := trodAll_cons hA
  obtain ⟨v1, vs1, d1, ds1, p1, q1, rfl, rfl, rfl, h1, r1⟩ := trodAll_cons r0
  obtain ⟨rfl, rfl, rfl⟩ := trodAll_nil r1
  obtain rfl : args = #[v0, v1] := by cases args; simp_all
  obtain ⟨rfl, rfl⟩ := trodVars_none hV
  have k0 := h0
  have lt0 := lt_of_trod h0
  obtain ⟨z0, rfl, w0⟩ := open_sheet (hval 0 71 v0 rfl rfl) h0
  have k1 := h1
  have lt1 := lt_of_trod h1
  obtain ⟨x1_0, x1_1, x1_2, x1_3, x1_4, rfl, w1_0, w1_1, w1_2, w1_3, w1_4⟩ := open_stroke (hval 1 80 v1 rfl rfl) h1
  clear hA0 hval0
  refine (walk z0 (x1_0, x1_1, x1_2, x1_3, x1_4) W w0 ⟨w1_0, w1_1, w1_2, w1_3, w1_4⟩).mono fun e W' hq => ?_
  obtain ⟨v, rfl, rfl, bel⟩ := hq
  exact ⟨_, rfl, _, _, _, [], _, [], hW', trodAll_mk1 (shut_bool Try.underlying4 _), (trodAll_cons_mk (Below.trod laidOut (by kernel_rfl) (of_decide_eq_true (by kernel_rfl)) k0 bel lt0) (trodAll_cons_mk (Below.trod laidOut (by kernel_rfl) (of_decide_eq_true (by kernel_rfl)) k1 bel lt1) trodAll_mk0)), rfl, bel.frame _, fun h => by cases h⟩

theorem over : Rows.fnExactDrawStrokeRow.holds Try.pinned (OpenSpec.ofChange Rows.fnExactDrawStrokeSpec) :=
  OpenClaim.holds_of_wide 9 Try.f9 rfl rfl rfl rfl rfl rfl rfl ⟨rfl, rfl, rfl, rfl, rfl⟩ rfl rfl rfl rfl rfl (by kernel_rfl) Try.func9 (by kernel_rfl)
    (of_decide_eq_true (by kernel_rfl)) (by unfold Func.isWrapper; rw [if_neg (of_decide_eq_false (by kernel_rfl))]; exact ⟨rfl, rfl⟩)
    (fun os started H enc _ => lifted os started H enc)

theorem proved : Rows.FnExactDrawStrokeSaid := over

end Go.Proofs.Ytpaangcbcknhlaa.lawExactDrawStroke
