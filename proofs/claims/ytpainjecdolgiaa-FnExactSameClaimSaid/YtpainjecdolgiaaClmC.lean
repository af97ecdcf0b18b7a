/- Contracts: claims copied, measured, compared by the law; claims as arguments. -/
import Derived.Test.YtpainjecdolgiaaClmB
namespace Go.Proofs.Ytpainjecdolgiaa
--## d
open Go.Inv
--## d
open Go.ChangeShapes Go.WideShapes Go.ChangeAt Go.RowKit Go.Flo Go.Mem
set_option linter.unusedSimpArgs false
set_option linter.unusedVariables false
set_option maxRecDepth 20000
--## d
theorem run_neq_self {P : Program} {t : TypeId} {k : IntKind} (X Y : Operand) (x : Int) (w : World) : (do eqGuard .neq t X Y (.int k x) (.int k x); binOp .neq t (.int k x) (.int k x) : Sem Value).run P w = .ok (.bool false) w := by
  rw [run_neq_intE, bne_self_eq_false]
--## d
theorem joinH {w wr w' : World} {r l : Blocks} {g : Nat} {cs : List Value} (h : Mem w wr r l) (hs : Mem wr w' [] [(g, cs)]) : Mem w w' r (l ++ [(g, cs)]) := by
  have hc := h.call hs.below
  have hg := hs.new (g, cs) (by simp)
  refine ⟨hc.below, hc.old, fun x hx => ?_, ?_⟩
  · rcases List.mem_append.1 hx with hx | hx
    · exact hc.new x hx
    · obtain rfl : x = (g, cs) := by simpa using hx
      exact ⟨Nat.le_trans h.below.size hg.1, hg.2⟩
  · rw [List.map_append, List.nodup_append]
    refine ⟨hc.apart, by simp, fun a ha b hb e => ?_⟩
    obtain ⟨x, hx, rfl⟩ := List.mem_map.1 ha
    have h1 := (h.new x hx).2.1
    simp at hb
    subst hb
    have := hg.1
    simp only at this e
    omega
--## d
theorem cellIn2 {w0 W : World} {r l : Blocks} {b : Nat} {cs : List Value} (h : Mem w0 W r l) (hm : (b, cs) ∈ l) (o : Nat) (v : Value) (hc : cs[o]? = some v) : W.cell? ⟨b, o, none⟩ = some v ∧ W.frozen? ⟨b, o, none⟩ = false := by
  obtain ⟨_, _, h3, h4⟩ := h.new _ hm
  have e1 := h3 o v hc
  have e2 := (h4 o (List.getElem?_eq_some_iff.1 hc).1).2
  rw [Nat.zero_add] at e1 e2
  exact ⟨e1, e2⟩
--## d
set_option maxHeartbeats 1600000 in
theorem SameClaimS (k0 : Int) (a0 : V3n) (s0 f0 : Int) (h0 : Nat) (k1 : Int) (a1 : V3n) (s1 f1 : Int) (h1 : Nat) (v0 v1 : Value) (z0 z1 : List Int) (w : World) (hP : Rls 1 w v0 (rI z0)) (hQ : Rls 1 w v1 (rI z1)) (hn : z0.length ≤ 1048576) :
    Calls Try.prog 6 #[.agg #[.int .i8 k0, .float .f32 a0.1, .float .f32 a0.2.1, .float .f32 a0.2.2, .int .i64 s0, .int .i64 f0, .float .f32 h0, v0], .agg #[.int .i8 k1, .float .f32 a1.1, .float .f32 a1.2.1, .float .f32 a1.2.2, .int .i64 s1, .int .i64 f1, .float .f32 h1, v1]] w (Gives (isB (sameC k0 k1 a0 a1 s0 s1 f0 f1 h0 h1 z0 z1)) w) := by
  have A : Aside (Rls 1 w v0 (rI z0) ∧ Rls 1 w v1 (rI z1) ∧ z0.length ≤ 1048576) := ⟨hP, hQ, hn⟩
  clear hP hQ hn
  have HM0 := Mem.start w
  have tk0 : True := trivial
  go_enter Try.func6, Try.ntmps6
  go_wp2_with (first | (clear tk0; refine Mem.wpList_box HM0 rfl rfl rfl rfl ?_; clear HM0; intro p1 W1 hb1 HM1) | (refine Mem.wpList_box HM1 rfl rfl rfl rfl ?_; clear HM1; intro p2 W2 hb2 HM2a; have HM2 : Mem w W2 [] [(p2, [.int .i8 k1, .float .f32 a1.1, .float .f32 a1.2.1, .float .f32 a1.2.2, .int .i64 s1, .int .i64 f1, .float .f32 h1, v1]), (p1, [.int .i8 k0, .float .f32 a0.1, .float .f32 a0.2.1, .float .f32 a0.2.2, .int .i64 s0, .int .i64 f0, .float .f32 h0, v0])] := HM2a; clear HM2a) | (go_at_call 16; go_loud (refine (l07SameClaimS _ _ k0 a0 s0 f0 h0 k1 a1 s1 f1 h1 v0 v1 z0 z1 _ (HM2.new _ (.tail _ (.head _))).2.1 (HM2.new _ (.head _)).2.1 (HM2.new _ (.tail _ (.head _))).2.2.1 (HM2.new _ (.head _)).2.2.1 (A.out.1.below HM2.below) (A.out.2.1.below HM2.below) A.out.2.2).mono ?_; rintro e w3 ⟨_, rfl, eb, hb⟩; cases eb; have HM3 := HM2.call hb; clear HM2)))
  simp [bodyPost, results, Try.results6, go_sem]
  exact ⟨_, rfl, rfl, HM3.below⟩
--## d
theorem zero_claim : ∀ w, (zeroValue 32).run Try.prog w = .ok (.agg #[.int .i8 0, .float .f32 0, .float .f32 0, .float .f32 0, .int .i64 0, .int .i64 0, .float .f32 0, .slice none 0 0]) w := fun _ => by kernel_rfl
--## d
set_option maxHeartbeats 4000000 in
theorem toClm (k0 : Int) (a0 : V3n) (s0 f0 : Int) (h0 : Nat) (v0 : Value) (z0 : List Int) (w : World) (hP : Rls 1 w v0 (rI z0)) (hn : z0.length ≤ 1048576) :
    Calls Try.prog 7 #[.agg #[.int .i8 k0, .float .f32 a0.1, .float .f32 a0.2.1, .float .f32 a0.2.2, .int .i64 s0, .int .i64 f0, .float .f32 h0, v0]] w (fun e w' => ∃ x, e = .returned (.agg #[.int .i8 k0, .float .f32 a0.1, .float .f32 a0.2.1, .float .f32 a0.2.2, .int .i64 s0, .int .i64 f0, .float .f32 h0, x]) ∧ Rls 1 w' x (rI z0) ∧ Below w.heap.size w w') := by
  have A : Aside (Rls 1 w v0 (rI z0) ∧ z0.length ≤ 1048576) := ⟨hP, hn⟩
  clear hP hn
  have hz := zero_claim
  have HM0 := Mem.start w
  go_enter Try.func7, Try.ntmps7
  go_wp2_with (first | (refine Mem.wpList_box HM0 rfl rfl rfl rfl ?_; clear HM0; intro p1 W1 hb1 HMa) | (refine Mem.wpList_alloc HMa rfl rfl hz rfl ?_; clear HMa; intro p2 W2 hb2 HMb) | (refine Mem.wpList_alloc HMb rfl rfl hz rfl ?_; clear HMb; intro p3 W3 hb3 HMc; have HM10 : Mem w W3 [] [(p3, [.int .i8 0, .float .f32 0, .float .f32 0, .float .f32 0, .int .i64 0, .int .i64 0, .float .f32 0, .slice none 0 0]), (p2, [.int .i8 0, .float .f32 0, .float .f32 0, .float .f32 0, .int .i64 0, .int .i64 0, .float .f32 0, .slice none 0 0]), (p1, [.int .i8 k0, .float .f32 a0.1, .float .f32 a0.2.1, .float .f32 a0.2.2, .int .i64 s0, .int .i64 f0, .float .f32 h0, v0])] := HMc; clear HMc) | (refine Mem.wpList_load_one HM10 rfl rfl rfl (by kernel_rfl) (.inl (.tail _ (.tail _ (.head _)))) (v := .int .i8 k0) rfl ?_) | (refine wpList_store (b := p3) (off := 0) (cs := [.int .i8 0, .float .f32 0, .float .f32 0, .float .f32 0, .int .i64 0, .int .i64 0, .float .f32 0, .slice none 0 0]) (vs := [.int .i8 k0]) HM10 0 rfl rfl rfl rfl rfl rfl (by kernel_rfl) rfl rfl ?_; clear HM10; intro w30 hM; have HM11 : Mem w w30 [] [(p3, [.int .i8 k0, .float .f32 0, .float .f32 0, .float .f32 0, .int .i64 0, .int .i64 0, .float .f32 0, .slice none 0 0]), (p2, [.int .i8 0, .float .f32 0, .float .f32 0, .float .f32 0, .int .i64 0, .int .i64 0, .float .f32 0, .slice none 0 0]), (p1, [.int .i8 k0, .float .f32 a0.1, .float .f32 a0.2.1, .float .f32 a0.2.2, .int .i64 s0, .int .i64 f0, .float .f32 h0, v0])] := hM; clear hM) | (refine Mem.wpList_load_row HM11 3 rfl rfl rfl (by kernel_rfl) (.inl (.tail _ (.tail _ (.head _)))) rfl rfl ?_) | (go_at_call 17; refine (toPoint_any a0.1 a0.2.1 a0.2.2 _).mono ?_; rintro e w5 ⟨rfl, hb5⟩; have HM21 := HM11.call hb5; clear HM11) | (refine wpList_store (b := p3) (off := 1) (cs := [.int .i8 k0, .float .f32 0, .float .f32 0, .float .f32 0, .int .i64 0, .int .i64 0, .float .f32 0, .slice none 0 0]) (vs := [.float .f32 a0.1, .float .f32 a0.2.1, .float .f32 a0.2.2]) HM21 0 rfl rfl rfl rfl rfl rfl (by kernel_rfl) rfl rfl ?_; clear HM21; intro w31 hM; have HM12 : Mem w w31 [] [(p3, [.int .i8 k0, .float .f32 a0.1, .float .f32 a0.2.1, .float .f32 a0.2.2, .int .i64 0, .int .i64 0, .float .f32 0, .slice none 0 0]), (p2, [.int .i8 0, .float .f32 0, .float .f32 0, .float .f32 0, .int .i64 0, .int .i64 0, .float .f32 0, .slice none 0 0]), (p1, [.int .i8 k0, .float .f32 a0.1, .float .f32 a0.2.1, .float .f32 a0.2.2, .int .i64 s0, .int .i64 f0, .float .f32 h0, v0])] := hM; clear hM) | (refine Mem.wpList_load_one HM12 rfl rfl rfl (by kernel_rfl) (.inl (.tail _ (.tail _ (.head _)))) (v := .int .i64 s0) rfl ?_) | (refine wpList_store (b := p3) (off := 4) (cs := [.int .i8 k0, .float .f32 a0.1, .float .f32 a0.2.1, .float .f32 a0.2.2, .int .i64 0, .int .i64 0, .float .f32 0, .slice none 0 0]) (vs := [.int .i64 s0]) HM12 0 rfl rfl rfl rfl rfl rfl (by kernel_rfl) rfl rfl ?_; clear HM12; intro w32 hM; have HM13 : Mem w w32 [] [(p3, [.int .i8 k0, .float .f32 a0.1, .float .f32 a0.2.1, .float .f32 a0.2.2, .int .i64 s0, .int .i64 0, .float .f32 0, .slice none 0 0]), (p2, [.int .i8 0, .float .f32 0, .float .f32 0, .float .f32 0, .int .i64 0, .int .i64 0, .float .f32 0, .slice none 0 0]), (p1, [.int .i8 k0, .float .f32 a0.1, .float .f32 a0.2.1, .float .f32 a0.2.2, .int .i64 s0, .int .i64 f0, .float .f32 h0, v0])] := hM; clear hM) | (refine Mem.wpList_load_one HM13 rfl rfl rfl (by kernel_rfl) (.inl (.tail _ (.tail _ (.head _)))) (v := .int .i64 f0) rfl ?_) | (refine wpList_store (b := p3) (off := 5) (cs := [.int .i8 k0, .float .f32 a0.1, .float .f32 a0.2.1, .float .f32 a0.2.2, .int .i64 s0, .int .i64 0, .float .f32 0, .slice none 0 0]) (vs := [.int .i64 f0]) HM13 0 rfl rfl rfl rfl rfl rfl (by kernel_rfl) rfl rfl ?_; clear HM13; intro w33 hM; have HM14 : Mem w w33 [] [(p3, [.int .i8 k0, .float .f32 a0.1, .float .f32 a0.2.1, .float .f32 a0.2.2, .int .i64 s0, .int .i64 f0, .float .f32 0, .slice none 0 0]), (p2, [.int .i8 0, .float .f32 0, .float .f32 0, .float .f32 0, .int .i64 0, .int .i64 0, .float .f32 0, .slice none 0 0]), (p1, [.int .i8 k0, .float .f32 a0.1, .float .f32 a0.2.1, .float .f32 a0.2.2, .int .i64 s0, .int .i64 f0, .float .f32 h0, v0])] := hM; clear hM) | (refine Mem.wpList_load_one HM14 rfl rfl rfl (by kernel_rfl) (.inl (.tail _ (.tail _ (.head _)))) (v := .float .f32 h0) rfl ?_) | (refine wpList_store (b := p3) (off := 6) (cs := [.int .i8 k0, .float .f32 a0.1, .float .f32 a0.2.1, .float .f32 a0.2.2, .int .i64 s0, .int .i64 f0, .float .f32 0, .slice none 0 0]) (vs := [.float .f32 h0]) HM14 0 rfl rfl rfl rfl rfl rfl (by kernel_rfl) rfl rfl ?_; clear HM14; intro w34 hM; have HM15 : Mem w w34 [] [(p3, [.int .i8 k0, .float .f32 a0.1, .float .f32 a0.2.1, .float .f32 a0.2.2, .int .i64 s0, .int .i64 f0, .float .f32 h0, .slice none 0 0]), (p2, [.int .i8 0, .float .f32 0, .float .f32 0, .float .f32 0, .int .i64 0, .int .i64 0, .float .f32 0, .slice none 0 0]), (p1, [.int .i8 k0, .float .f32 a0.1, .float .f32 a0.2.1, .float .f32 a0.2.2, .int .i64 s0, .int .i64 f0, .float .f32 h0, v0])] := hM; clear hM) | (refine Mem.wpList_load_one HM15 rfl rfl rfl (by kernel_rfl) (.inl (.tail _ (.tail _ (.head _)))) (v := v0) rfl ?_) | (go_at_call 18; (refine (toI v0 z0 _ (A.out.1.below HM15.below) A.out.2).mono ?_; rintro e w6 ⟨rfl, cs, HJ, rfl⟩; have HM16 := joinH HM15 HJ; clear HM15 HJ)) | (refine wpList_store (b := p3) (off := 7) (cs := [.int .i8 k0, .float .f32 a0.1, .float .f32 a0.2.1, .float .f32 a0.2.2, .int .i64 s0, .int .i64 f0, .float .f32 h0, .slice none 0 0]) (vs := [_]) HM16 0 rfl rfl rfl rfl rfl rfl (by kernel_rfl) rfl rfl ?_; clear HM16; intro w7 HM17) | (refine Mem.wpList_load_row HM17 8 rfl rfl rfl (by kernel_rfl) (.inl (.head _)) rfl rfl ?_) | (refine wpList_store (b := p2) (off := 0) (vs := _) HM17 1 rfl rfl rfl rfl rfl rfl (by kernel_rfl) rfl rfl ?_; clear HM17; intro w8 HM18) | (refine Mem.wpList_load_row HM18 8 rfl rfl rfl (by kernel_rfl) (.inl (.tail _ (.head _))) rfl rfl ?_))
  have hx := rls_flat (rs := rI z0) rI_row HM18 (.tail _ (.tail _ (.tail _ (.head _))))
  rw [rI_len] at hx
  have hb := HM18.below
  have c0 := (cellIn2 HM18 (.tail _ (.head _)) 0 _ rfl).1; have c1 := (cellIn2 HM18 (.tail _ (.head _)) 1 _ rfl).1; have c2 := (cellIn2 HM18 (.tail _ (.head _)) 2 _ rfl).1; have c3 := (cellIn2 HM18 (.tail _ (.head _)) 3 _ rfl).1; have c4 := (cellIn2 HM18 (.tail _ (.head _)) 4 _ rfl).1; have c5 := (cellIn2 HM18 (.tail _ (.head _)) 5 _ rfl).1; have c6 := (cellIn2 HM18 (.tail _ (.head _)) 6 _ rfl).1; have c7 := (cellIn2 HM18 (.tail _ (.head _)) 7 _ rfl).1
  clear HM18
  simp [bodyPost, results, Try.results7, go_sem, c0, c1, c2, c3, c4, c5, c6, c7]
  exact ⟨hx, hb⟩
--## d
set_option maxHeartbeats 4000000 in
theorem szClm (k0 : Int) (a0 : V3n) (s0 f0 : Int) (h0 : Nat) (v0 : Value) (z0 : List Int) (L : Int) (w : World) (hP : Rls 1 w v0 (rI z0)) (hc : z0.length < 2 ^ 63) (hL : 0 ≤ L ∧ L ≤ 1048576) :
    Calls Try.prog 5 #[.agg #[.int .i8 k0, .float .f32 a0.1, .float .f32 a0.2.1, .float .f32 a0.2.2, .int .i64 s0, .int .i64 f0, .float .f32 h0, v0], .int .i64 L] w (Gives (fun r => ∃ l : Int, r = .int .i64 l ∧ l ≤ 1048576 ∧ (0 ≤ l → z0.length ≤ 1048576)) w) := by
  have A : Aside (Rls 1 w v0 (rI z0) ∧ z0.length < 2 ^ 63 ∧ 0 ≤ L ∧ L ≤ 1048576) := ⟨hP, hc, hL⟩
  clear hP hc
  obtain ⟨hL0, hL1⟩ := hL
  have HM0 := Mem.start w
  by_cases h : (z0.length : Int) ≤ L
  · obtain ⟨l, hl⟩ : ∃ l : Int, L - z0.length = l := ⟨_, rfl⟩
    have hl0 : ¬ (l < 0) := by omega
    have HS : Aside ((if (z0.length : Int) ≤ L then L - (z0.length : Int) else -1) = l) := by show _ = l; rw [if_pos h]; exact hl
    have HR : Aside (l ≤ 1048576 ∧ (0 ≤ l → z0.length ≤ 1048576)) := ⟨by omega, fun _ => by omega⟩
    clear h hl
    go_enter Try.func5, Try.ntmps5
    go_wp2_with (first | (refine Mem.wpList_box HM0 rfl rfl rfl rfl ?_; clear HM0; intro p1 W1 hb1 HMa; have HM1 : Mem w W1 [] [(p1, [.int .i8 k0, .float .f32 a0.1, .float .f32 a0.2.1, .float .f32 a0.2.2, .int .i64 s0, .int .i64 f0, .float .f32 h0, v0])] := HMa; clear HMa) | (refine Mem.wpList_load_one HM1 rfl rfl rfl (by kernel_rfl) (.inl (.head _)) (v := v0) rfl ?_) | (go_at_call 15; refine (szI v0 z0 L _ (A.out.1.below HM1.below) A.out.2.1 A.out.2.2).mono ?_; rw [HS.out]; rintro e w2 ⟨_, rfl, rfl, hb2⟩; have HM2 := HM1.call hb2; clear HM1))
    simp [bodyPost, results, Try.results5, go_sem]
    exact ⟨_, rfl, ⟨_, rfl, HR.out⟩, HM2.below⟩
  · have HS : Aside ((if (z0.length : Int) ≤ L then L - (z0.length : Int) else -1) = -1) := by show _ = (-1 : Int); rw [if_neg h]
    clear h
    go_enter Try.func5, Try.ntmps5
    go_wp2_with (first | (refine Mem.wpList_box HM0 rfl rfl rfl rfl ?_; clear HM0; intro p1 W1 hb1 HMa; have HM1 : Mem w W1 [] [(p1, [.int .i8 k0, .float .f32 a0.1, .float .f32 a0.2.1, .float .f32 a0.2.2, .int .i64 s0, .int .i64 f0, .float .f32 h0, v0])] := HMa; clear HMa) | (refine Mem.wpList_load_one HM1 rfl rfl rfl (by kernel_rfl) (.inl (.head _)) (v := v0) rfl ?_) | (go_at_call 15; refine (szI v0 z0 L _ (A.out.1.below HM1.below) A.out.2.1 A.out.2.2).mono ?_; rw [HS.out]; rintro e w2 ⟨_, rfl, rfl, hb2⟩; have HM2 := HM1.call hb2; clear HM1))
    simp [bodyPost, results, Try.results5, go_sem]
    exact ⟨_, rfl, ⟨_, rfl, by omega, fun h => by omega⟩, HM2.below⟩
--## d
set_option maxHeartbeats 4000000 in
theorem eqClm (k0 : Int) (a0 : V3n) (s0 f0 : Int) (h0 : Nat) (v0 v1 : Value) (z0 : List Int) (w : World) (hP : Rls 1 w v0 (rI z0)) (hQ : Rls 1 w v1 (rI z0)) (hn : z0.length ≤ 1048576) :
    Calls Try.prog 9 #[.agg #[.int .i8 k0, .float .f32 a0.1, .float .f32 a0.2.1, .float .f32 a0.2.2, .int .i64 s0, .int .i64 f0, .float .f32 h0, v0], .agg #[.int .i8 k0, .float .f32 a0.1, .float .f32 a0.2.1, .float .f32 a0.2.2, .int .i64 s0, .int .i64 f0, .float .f32 h0, v1]] w (Gives (isB true) w) := by
  have A : Aside (Rls 1 w v0 (rI z0) ∧ Rls 1 w v1 (rI z0) ∧ z0.length ≤ 1048576) := ⟨hP, hQ, hn⟩
  clear hP hQ hn
  have HM0 := Mem.start w
  have tk1 : True := trivial
  have tk0 : True := trivial
  go_enter Try.func9, Try.ntmps9
  go_wp2_with (first | (clear tk0; refine Mem.wpList_box HM0 rfl rfl rfl rfl ?_; clear HM0; intro p1 W1 hb1 HM1) | (refine Mem.wpList_box HM1 rfl rfl rfl rfl ?_; clear HM1; intro p2 W2 hb2 HM2a; have HM2 : Mem w W2 [] [(p2, [.int .i8 k0, .float .f32 a0.1, .float .f32 a0.2.1, .float .f32 a0.2.2, .int .i64 s0, .int .i64 f0, .float .f32 h0, v1]), (p1, [.int .i8 k0, .float .f32 a0.1, .float .f32 a0.2.1, .float .f32 a0.2.2, .int .i64 s0, .int .i64 f0, .float .f32 h0, v0])] := HM2a; clear HM2a) | (refine wpList_plain rfl fun K hK => Inv.wp_binop (u := .bool false) rfl rfl rfl (fun w => run_neq_self _ _ _ w) (hK _ _ ?_)) | (refine Mem.wpList_load_row (off := 1) HM2 3 rfl rfl rfl (by kernel_rfl) (.inl (.tail _ (.head _))) rfl rfl ?_) | (refine Mem.wpList_load_row (off := 1) HM2 3 rfl rfl rfl (by kernel_rfl) (.inl (.head _)) rfl rfl ?_) | (refine Mem.wpList_load_one HM2 rfl rfl rfl (by kernel_rfl) (.inl (.tail _ (.head _))) rfl ?_) | (refine Mem.wpList_load_one HM2 rfl rfl rfl (by kernel_rfl) (.inl (.head _)) rfl ?_) | (refine Mem.wpList_load_row (off := 1) HM3 3 rfl rfl rfl (by kernel_rfl) (.inl (.tail _ (.head _))) rfl rfl ?_) | (refine Mem.wpList_load_row (off := 1) HM3 3 rfl rfl rfl (by kernel_rfl) (.inl (.head _)) rfl rfl ?_) | (refine Mem.wpList_load_one HM3 rfl rfl rfl (by kernel_rfl) (.inl (.tail _ (.head _))) rfl ?_) | (refine Mem.wpList_load_one HM3 rfl rfl rfl (by kernel_rfl) (.inl (.head _)) rfl ?_) | (go_at_call 22; refine (eqPt a0.1 a0.2.1 a0.2.2 _).mono ?_; rintro e w3 ⟨_, rfl, eb, hb3⟩; cases eb; have HM3 := HM2.call hb3; clear HM2) | (clear tk1; refine wpList_widen rfl _ _ _ rfl _ rfl (by kernel_rfl) (by kernel_rfl) ?_; intro r1 n1 hr1; have HM4 := HM3.call (below_draws (Below.refl _ _) n1); clear HM3; generalize World.drewN _ n1 = w41 at *) | (refine Mem.wpList_load_one HM4 rfl rfl rfl (by kernel_rfl) (.inl (.head _)) rfl ?_) | (refine wpList_widen rfl _ _ _ rfl _ rfl (by kernel_rfl) (by kernel_rfl) ?_; intro r2 n2 hr2; have HM5 := HM4.call (below_draws (Below.refl _ _) n2); clear HM4; generalize World.drewN _ n2 = w51 at *) | (go_at_call 23; refine (sameFloat_any r1 r2 (hr1.out.1.trans hr2.out.1.symm) _).mono ?_; rintro e w6 ⟨rfl, m6, hw6⟩; have HM6 := HM5.call (below_draws (Below.refl _ _) m6); rw [← hw6] at HM6; clear HM5 hw6) | (refine Mem.wpList_load_one HM6 rfl rfl rfl (by kernel_rfl) (.inl (.tail _ (.head _))) rfl ?_) | (refine Mem.wpList_load_one HM6 rfl rfl rfl (by kernel_rfl) (.inl (.head _)) rfl ?_) | (go_at_call 24; refine (eqI v0 v1 z0 _ (A.out.1.below HM6.below) (A.out.2.1.below HM6.below) A.out.2.2).mono ?_; rintro e w7 ⟨_, rfl, eb, hb7⟩; cases eb; have HM7 := HM6.call hb7; clear HM6))
  simp [bodyPost, results, Try.results9, go_sem]
  exact ⟨_, rfl, rfl, HM7.below⟩
--## d
section
--## d
variable {H : Type} {enc : TypeId × Value → H} {w : World} {base : Nat} {spare : Nat → Bool} {held : Bool}
--## d
theorem trod_claim {fuel : Nat} {c0 c1 c2 c3 c4 c5 c6 c7 : Value} {y : DataW H × List MemPlace} (h : DataW.trod enc Try.prog w base spare held fuel 27 [c0, c1, c2, c3, c4, c5, c6, c7] = some y) : ∃ (k0 : Int) (a0 : V3n) (s0 f0 : Int) (h0 : Nat) (z0 : List Int), [c0, c1, c2, c3, c4, c5, c6, c7] = [.int .i8 k0, .float .f32 a0.1, .float .f32 a0.2.1, .float .f32 a0.2.2, .int .i64 s0, .int .i64 f0, .float .f32 h0, c7] ∧ Rls 1 w c7 (rI z0) ∧ z0.length ≤ maxLen := by
  obtain ⟨xs, n, _, _, _, hlen, hx⟩ := DataW.trod_struct Try.underlying27 h
  have t1 : Try.prog.cellsOf 22 = 1 := by kernel_rfl
  have t2 : Try.prog.cellsOf 24 = 3 := by kernel_rfl
  have t3 : Try.prog.cellsOf 2 = 1 := by kernel_rfl
  have t4 : Try.prog.cellsOf 23 = 1 := by kernel_rfl
  have t5 : Try.prog.cellsOf 25 = 1 := by kernel_rfl
  have g0 := hx 0 _ rfl
  obtain ⟨y0, e0⟩ : ∃ y, xs[0]? = some y := ⟨xs[0]'(by rw [hlen]; decide), List.getElem?_eq_getElem _⟩
  rw [e0] at g0
  have z0 : DataW.trod enc Try.prog w base spare held n 22 [c0] = some y0 := by
    simpa [Value.cells, t1, t2, t3, t4, t5] using g0
  have g1 := hx 1 _ rfl
  obtain ⟨y1, e1⟩ : ∃ y, xs[1]? = some y := ⟨xs[1]'(by rw [hlen]; decide), List.getElem?_eq_getElem _⟩
  rw [e1] at g1
  have z1 : DataW.trod enc Try.prog w base spare held n 24 [c1, c2, c3] = some y1 := by
    simpa [Value.cells, t1, t2, t3, t4, t5] using g1
  have g2 := hx 2 _ rfl
  obtain ⟨y2, e2⟩ : ∃ y, xs[2]? = some y := ⟨xs[2]'(by rw [hlen]; decide), List.getElem?_eq_getElem _⟩
  rw [e2] at g2
  have z2 : DataW.trod enc Try.prog w base spare held n 2 [c4] = some y2 := by
    simpa [Value.cells, t1, t2, t3, t4, t5] using g2
  have g3 := hx 3 _ rfl
  obtain ⟨y3, e3⟩ : ∃ y, xs[3]? = some y := ⟨xs[3]'(by rw [hlen]; decide), List.getElem?_eq_getElem _⟩
  rw [e3] at g3
  have z3 : DataW.trod enc Try.prog w base spare held n 2 [c5] = some y3 := by
    simpa [Value.cells, t1, t2, t3, t4, t5] using g3
  have g4 := hx 4 _ rfl
  obtain ⟨y4, e4⟩ : ∃ y, xs[4]? = some y := ⟨xs[4]'(by rw [hlen]; decide), List.getElem?_eq_getElem _⟩
  rw [e4] at g4
  have z4 : DataW.trod enc Try.prog w base spare held n 23 [c6] = some y4 := by
    simpa [Value.cells, t1, t2, t3, t4, t5] using g4
  have g5 := hx 5 _ rfl
  obtain ⟨y5, e5⟩ : ∃ y, xs[5]? = some y := ⟨xs[5]'(by rw [hlen]; decide), List.getElem?_eq_getElem _⟩
  rw [e5] at g5
  have z5 : DataW.trod enc Try.prog w base spare held n 25 [c7] = some y5 := by
    simpa [Value.cells, t1, t2, t3, t4, t5] using g5
  obtain ⟨k, rfl, _⟩ := cell_int Try.underlying22 z0
  obtain ⟨a, ha⟩ := trod_float3 z1
  obtain ⟨s, rfl, _⟩ := cell_int Try.underlying2 z2
  obtain ⟨f, rfl, _⟩ := cell_int Try.underlying2 z3
  obtain ⟨hh, rfl, _⟩ := cell_float Try.underlying23 z4
  obtain ⟨zs, hP, _, hl⟩ := open_i16C z5
  simp at ha
  obtain ⟨rfl, rfl, rfl⟩ := ha
  exact ⟨k, a, s, f, hh, zs, rfl, hP, hl⟩
--## d
theorem arr8 {α : Type} {cs : Array α} (h : cs.size = 8) : ∃ c0 c1 c2 c3 c4 c5 c6 c7, cs = #[c0, c1, c2, c3, c4, c5, c6, c7] := by
  obtain ⟨l⟩ := cs
  match l, h with
  | [c0, c1, c2, c3, c4, c5, c6, c7], _ => exact ⟨c0, c1, c2, c3, c4, c5, c6, c7, rfl⟩
--## d
theorem open_claim {r : Reach} {b0 : Nat} {v : Value} {d : DataW H} {ps : List MemPlace} (hval : Value.okWide Try.prog w r b0 27 v) (hd : DataW.Trod enc Try.prog w base spare held 27 v d ps) :
    ∃ (c7 : Value) (k0 : Int) (a0 : V3n) (s0 f0 : Int) (h0 : Nat) (z0 : List Int), v = .agg #[.int .i8 k0, .float .f32 a0.1, .float .f32 a0.2.1, .float .f32 a0.2.2, .int .i64 s0, .int .i64 f0, .float .f32 h0, c7] ∧ Rls 1 w c7 (rI z0) ∧ z0.length ≤ maxLen := by
  simp only [Value.okWide, Try.underlying27] at hval
  obtain ⟨cs, rfl, hsz, _⟩ := hval
  obtain ⟨c0, c1, c2, c3, c4, c5, c6, c7, rfl⟩ := arr8 (hsz.trans (by kernel_rfl))
  obtain ⟨fuel, hf⟩ := hd
  obtain ⟨k, a, s, f, h, zs, he, hP, hl⟩ := trod_claim hf
  simp at he
  obtain ⟨rfl, rfl, rfl, rfl, rfl, rfl, rfl⟩ := he
  exact ⟨c7, k, a, s, f, h, zs, rfl, hP, hl⟩
--## d
end
--## d
end Go.Proofs.Ytpainjecdolgiaa
