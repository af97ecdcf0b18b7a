/- Contracts: claims compared by the model. -/
import Derived.Test.YtpainjecdolgiaaClm
import Derived.Test.YtpainjecdolgiaaVfl
namespace Go.Proofs.Ytpainjecdolgiaa
--## d
open Go.Inv
--## d
open Go.ChangeShapes Go.WideShapes Go.ChangeAt Go.RowKit Go.Flo Go.Mem
set_option linter.unusedSimpArgs false
set_option linter.unusedVariables false
set_option maxRecDepth 20000
--## d
set_option maxHeartbeats 16000000 in
theorem l07SameClaimS (p q : Nat) (k0 : Int) (a0 : V3n) (s0 f0 : Int) (h0 : Nat) (k1 : Int) (a1 : V3n) (s1 f1 : Int) (h1 : Nat) (v0 v1 : Value) (z0 z1 : List Int) (w : World) (hpb : p < w.heap.size) (hqb : q < w.heap.size) (hp : w.rangeAt p 0 [.int .i8 k0, .float .f32 a0.1, .float .f32 a0.2.1, .float .f32 a0.2.2, .int .i64 s0, .int .i64 f0, .float .f32 h0, v0]) (hq : w.rangeAt q 0 [.int .i8 k1, .float .f32 a1.1, .float .f32 a1.2.1, .float .f32 a1.2.2, .int .i64 s1, .int .i64 f1, .float .f32 h1, v1]) (hP : Rls 1 w v0 (rI z0)) (hQ : Rls 1 w v1 (rI z1)) (hn : z0.length ≤ 1048576) :
    Calls Try.prog 16 #[.pointer (some ⟨p, 0, none⟩), .pointer (some ⟨q, 0, none⟩)] w (Gives (isB (sameC k0 k1 a0 a1 s0 s1 f0 f1 h0 h1 z0 z1)) w) := by
  have A : Aside (Rls 1 w v0 (rI z0) ∧ Rls 1 w v1 (rI z1) ∧ z0.length ≤ 1048576) := ⟨hP, hQ, hn⟩
  obtain ⟨x0, y0, rfl, _⟩ := hP
  obtain ⟨x1, y1, rfl, _⟩ := hQ
  rw [rI_len] at *
  have HM : Mem w w [(p, [.int .i8 k0, .float .f32 a0.1, .float .f32 a0.2.1, .float .f32 a0.2.2, .int .i64 s0, .int .i64 f0, .float .f32 h0, .slice x0 z0.length y0]), (q, [.int .i8 k1, .float .f32 a1.1, .float .f32 a1.2.1, .float .f32 a1.2.2, .int .i64 s1, .int .i64 f1, .float .f32 h1, .slice x1 z1.length y1])] [] := Mem.start_old (by
    intro x hx
    simp only [List.mem_cons, List.not_mem_nil, or_false] at hx
    rcases hx with rfl | rfl
    · exact ⟨hpb, hp⟩
    · exact ⟨hqb, hq⟩)
  clear hp hq hpb hqb
  cases b0 : (k0 == k1)
  · have n0 : (k0 != k1) = true := by simp only [bne, b0, Bool.not_true, Bool.not_false]
    have HR : Aside (sameC k0 k1 a0 a1 s0 s1 f0 f1 h0 h1 z0 z1 = false) := by show sameC k0 k1 a0 a1 s0 s1 f0 f1 h0 h1 z0 z1 = false; unfold sameC; simp only [b0, Bool.true_and, Bool.false_and, Bool.and_false, Bool.and_self]
    go_enter Try.func16, Try.ntmps16
    go_wp2_with fail
    refine Inv.wp_region_flow (F := fun L v W => Mem w W [(p, [.int .i8 k0, .float .f32 a0.1, .float .f32 a0.2.1, .float .f32 a0.2.2, .int .i64 s0, .int .i64 f0, .float .f32 h0, .slice x0 z0.length y0]), (q, [.int .i8 k1, .float .f32 a1.1, .float .f32 a1.2.1, .float .f32 a1.2.2, .int .i64 s1, .int .i64 f1, .float .f32 h1, .slice x1 z1.length y1])] [] ∧ ∀ j, L j = true → v j = ([.pointer (some ⟨p, 0, none⟩), .pointer (some ⟨p, 0, none⟩), .pointer (some ⟨p, 0, none⟩), .int .i8 k0, .pointer (some ⟨q, 0, none⟩), .pointer (some ⟨q, 0, none⟩), .pointer (some ⟨q, 0, none⟩), .int .i8 k1, .bool true, .bool true, undef, undef, undef, undef, undef, undef, undef, undef, undef, undef, .bool true, .bool true, undef, undef, undef, undef, undef, undef, undef, undef, undef, .bool true, .bool true, undef, undef, undef, undef, undef, undef, undef, undef, undef, .bool true, .bool true, undef, undef, undef, undef, undef, undef, undef, undef, undef, undef, .bool true, .bool true, undef, undef, undef, undef, undef, undef, undef, undef, undef, undef, undef, .bool true] : List Value).getD j undef) (by kernel_rfl) (by kernel_rfl) (by kernel_rfl) (fun v => ⟨HM.drew, fun j h => absurd h Bool.false_ne_true⟩) ⟨?_, ?_, ?_, ?_, ?_, ?_, ?_, ?_, ?_, ?_, ?_, ?_, ?_, ?_, ?_, ?_, ?_, ?_, ?_, ?_, ?_, ?_, ?_, ?_, ?_, ?_, ?_, ?_, ?_, ?_, ?_, ?_, ?_, ?_, ?_, ?_, ?_, ?_, ?_, ?_, ?_, ?_, ?_, ?_, ?_, ?_, ?_, ?_, ?_, ?_, ?_, ?_, ?_, ?_, ?_, ?_, ?_, ?_, ?_, ?_, ?_, ?_, ?_, ?_, ?_, ?_, ?_, ?_, trivial⟩ ?_
    · intro L v W aAct hF hn hd hin hout K hK
      obtain ⟨HM, hV⟩ := hF
      rw [if_pos (by rfl)]
      exact Inv.wp_move (.inl rfl) ((hout 0 rfl).trans rfl) (hK.out _ W ⟨HM, flow_vals hV rfl⟩)
    · intro L v W aAct hF hn hd hin hout K hK
      obtain ⟨HM, hV⟩ := hF
      have D0 : L 0 = true := hd ⟨0, Go.Ground.data⟩ (by simp) rfl
      rw [if_pos (by rfl)]
      have E0 : v 0 = .pointer (some ⟨p, 0, none⟩) := hV 0 D0
      exact Inv.wp_nilCheck rfl ((hin 0 _ _ rfl rfl).trans E0) (hK.out _ W ⟨HM, flow_vals hV rfl⟩)
    · intro L v W aAct hF hn hd hin hout K hK
      obtain ⟨HM, hV⟩ := hF
      have D1 : L 1 = true := hd ⟨1, Go.Ground.data⟩ (by simp) rfl
      rw [if_pos (by rfl)]
      have E1 : v 1 = .pointer (some ⟨p, 0, none⟩) := hV 1 D1
      exact Inv.wp_fieldAddr (u := .pointer (some ⟨p, 0, none⟩)) rfl ((hin 1 _ _ rfl rfl).trans E1) (fun _ => by kernel_rfl) (hK.out _ W ⟨HM, flow_vals hV rfl⟩)
    · intro L v W aAct hF hn hd hin hout K hK
      obtain ⟨HM, hV⟩ := hF
      have D2 : L 2 = true := hd ⟨2, Go.Ground.data⟩ (by simp) rfl
      rw [if_pos (by rfl)]
      have E2 : v 2 = .pointer (some ⟨p, 0, none⟩) := hV 2 D2
      exact Mem.wp_load_one HM rfl ((hin 2 _ _ rfl rfl).trans E2) (by kernel_rfl) (.inr (.head _)) rfl (hK.out _ W ⟨HM, flow_vals hV rfl⟩)
    · intro L v W aAct hF hn hd hin hout K hK
      obtain ⟨HM, hV⟩ := hF
      rw [if_pos (by rfl)]
      exact Inv.wp_move (.inl rfl) ((hout 1 rfl).trans rfl) (hK.out _ W ⟨HM, flow_vals hV rfl⟩)
    · intro L v W aAct hF hn hd hin hout K hK
      obtain ⟨HM, hV⟩ := hF
      have D4 : L 4 = true := hd ⟨4, Go.Ground.data⟩ (by simp) rfl
      rw [if_pos (by rfl)]
      have E4 : v 4 = .pointer (some ⟨q, 0, none⟩) := hV 4 D4
      exact Inv.wp_nilCheck rfl ((hin 4 _ _ rfl rfl).trans E4) (hK.out _ W ⟨HM, flow_vals hV rfl⟩)
    · intro L v W aAct hF hn hd hin hout K hK
      obtain ⟨HM, hV⟩ := hF
      have D5 : L 5 = true := hd ⟨5, Go.Ground.data⟩ (by simp) rfl
      rw [if_pos (by rfl)]
      have E5 : v 5 = .pointer (some ⟨q, 0, none⟩) := hV 5 D5
      exact Inv.wp_fieldAddr (u := .pointer (some ⟨q, 0, none⟩)) rfl ((hin 5 _ _ rfl rfl).trans E5) (fun _ => by kernel_rfl) (hK.out _ W ⟨HM, flow_vals hV rfl⟩)
    · intro L v W aAct hF hn hd hin hout K hK
      obtain ⟨HM, hV⟩ := hF
      have D6 : L 6 = true := hd ⟨6, Go.Ground.data⟩ (by simp) rfl
      rw [if_pos (by rfl)]
      have E6 : v 6 = .pointer (some ⟨q, 0, none⟩) := hV 6 D6
      exact Mem.wp_load_one HM rfl ((hin 6 _ _ rfl rfl).trans E6) (by kernel_rfl) (.inr (.tail _ (.head _))) rfl (hK.out _ W ⟨HM, flow_vals hV rfl⟩)
    · intro L v W aAct hF hn hd hin hout K hK
      obtain ⟨HM, hV⟩ := hF
      have D3 : L 3 = true := hd ⟨3, Go.Ground.data⟩ (by simp) rfl
      have D7 : L 7 = true := hd ⟨7, Go.Ground.data⟩ (by simp) rfl
      rw [if_pos (by rfl)]
      have E3 : v 3 = .int .i8 k0 := hV 3 D3
      have E7 : v 7 = .int .i8 k1 := hV 7 D7
      exact Inv.wp_binop (u := .bool true) rfl ((hin 3 _ _ rfl rfl).trans E3) ((hin 7 _ _ rfl rfl).trans E7) (fun w => (run_neq_intE _ _ _ _ w).trans (by rw [n0])) (hK.out _ W ⟨HM, flow_vals hV rfl⟩)
    · intro L v W aAct hF hn hd hin hout K hK
      obtain ⟨HM, hV⟩ := hF
      have D8 : L 8 = true := hd ⟨8, Go.Ground.data⟩ (by simp) rfl
      rw [if_pos (by rfl)]
      have E8 : v 8 = .bool true := hV 8 D8
      exact Inv.wp_move (.inl rfl) ((hin 8 _ _ rfl rfl).trans E8) (hK.out _ W ⟨HM, flow_vals hV rfl⟩)
    · intro L v W aAct hF hn hd hin hout K hK
      obtain ⟨HM, hV⟩ := hF
      have D9 : L 9 = true := hd ⟨9, Go.Ground.guard⟩ (by simp) rfl
      have E9 : v 9 = .bool true := hV 9 D9
      rw [if_neg (by rw [Inv.wanted_of (b := true) rfl rfl rfl ((hin 9 _ _ rfl rfl).trans E9)]; decide)]
      exact hK.out _ W ⟨HM, flow_vals hV rfl⟩
    · intro L v W aAct hF hn hd hin hout K hK
      obtain ⟨HM, hV⟩ := hF
      have D9 : L 9 = true := hd ⟨9, Go.Ground.guard⟩ (by simp) rfl
      have E9 : v 9 = .bool true := hV 9 D9
      rw [if_neg (by rw [Inv.wanted_of (b := true) rfl rfl rfl ((hin 9 _ _ rfl rfl).trans E9)]; decide)]
      exact hK.out _ W ⟨HM, flow_vals hV rfl⟩
    · intro L v W aAct hF hn hd hin hout K hK
      obtain ⟨HM, hV⟩ := hF
      have D9 : L 9 = true := hd ⟨9, Go.Ground.guard⟩ (by simp) rfl
      have E9 : v 9 = .bool true := hV 9 D9
      rw [if_neg (by rw [Inv.wanted_of (b := true) rfl rfl rfl ((hin 9 _ _ rfl rfl).trans E9)]; decide)]
      exact hK.out _ W ⟨HM, flow_vals hV rfl⟩
    · intro L v W aAct hF hn hd hin hout K hK
      obtain ⟨HM, hV⟩ := hF
      have D9 : L 9 = true := hd ⟨9, Go.Ground.guard⟩ (by simp) rfl
      have E9 : v 9 = .bool true := hV 9 D9
      rw [if_neg (by rw [Inv.wanted_of (b := true) rfl rfl rfl ((hin 9 _ _ rfl rfl).trans E9)]; decide)]
      exact hK.out _ W ⟨HM, flow_vals hV rfl⟩
    · intro L v W aAct hF hn hd hin hout K hK
      obtain ⟨HM, hV⟩ := hF
      have D9 : L 9 = true := hd ⟨9, Go.Ground.guard⟩ (by simp) rfl
      have E9 : v 9 = .bool true := hV 9 D9
      rw [if_neg (by rw [Inv.wanted_of (b := true) rfl rfl rfl ((hin 9 _ _ rfl rfl).trans E9)]; decide)]
      exact hK.out _ W ⟨HM, flow_vals hV rfl⟩
    · intro L v W aAct hF hn hd hin hout K hK
      obtain ⟨HM, hV⟩ := hF
      have D9 : L 9 = true := hd ⟨9, Go.Ground.guard⟩ (by simp) rfl
      have E9 : v 9 = .bool true := hV 9 D9
      rw [if_neg (by rw [Inv.wanted_of (b := true) rfl rfl rfl ((hin 9 _ _ rfl rfl).trans E9)]; decide)]
      exact hK.out _ W ⟨HM, flow_vals hV rfl⟩
    · intro L v W aAct hF hn hd hin hout K hK
      obtain ⟨HM, hV⟩ := hF
      have D9 : L 9 = true := hd ⟨9, Go.Ground.guard⟩ (by simp) rfl
      have E9 : v 9 = .bool true := hV 9 D9
      rw [if_neg (by rw [Inv.wanted_of (b := true) rfl rfl rfl ((hin 9 _ _ rfl rfl).trans E9)]; decide)]
      exact hK.out _ W ⟨HM, flow_vals hV rfl⟩
    · intro L v W aAct hF hn hd hin hout K hK
      obtain ⟨HM, hV⟩ := hF
      have D9 : L 9 = true := hd ⟨9, Go.Ground.guard⟩ (by simp) rfl
      have E9 : v 9 = .bool true := hV 9 D9
      rw [if_neg (by rw [Inv.wanted_of (b := true) rfl rfl rfl ((hin 9 _ _ rfl rfl).trans E9)]; decide)]
      exact hK.out _ W ⟨HM, flow_vals hV rfl⟩
    · intro L v W aAct hF hn hd hin hout K hK
      obtain ⟨HM, hV⟩ := hF
      have D9 : L 9 = true := hd ⟨9, Go.Ground.chain⟩ (by simp) rfl
      have E9 : v 9 = .bool true := hV 9 D9
      rw [if_neg (by rw [Inv.wanted_of (b := true) rfl rfl rfl ((hin 9 _ _ rfl rfl).trans E9)]; decide)]
      exact hK.out _ W ⟨HM, flow_vals hV rfl⟩
    · intro L v W aAct hF hn hd hin hout K hK
      obtain ⟨HM, hV⟩ := hF
      have D9 : L 9 = true := hd ⟨9, Go.Ground.guard⟩ (by simp) rfl
      have E9 : v 9 = .bool true := hV 9 D9
      rw [if_neg (by rw [Inv.wanted_of (b := true) rfl rfl rfl ((hin 9 _ _ rfl rfl).trans E9)]; decide)]
      exact hK.out _ W ⟨HM, flow_vals hV rfl⟩
    · intro L v W aAct hF hn hd hin hout K hK
      obtain ⟨HM, hV⟩ := hF
      have D9 : L 9 = true := hd ⟨9, Go.Ground.data⟩ (by simp) rfl
      rw [if_pos (by rfl)]
      have E9 : v 9 = .bool true := hV 9 D9
      exact Inv.wp_pick rfl ((hin 9 _ _ rfl rfl).trans E9) ((if_pos rfl).trans rfl) (hK.out _ W ⟨HM, flow_vals hV rfl⟩)
    · intro L v W aAct hF hn hd hin hout K hK
      obtain ⟨HM, hV⟩ := hF
      have D20 : L 20 = true := hd ⟨20, Go.Ground.data⟩ (by simp) rfl
      rw [if_pos (by rfl)]
      have E20 : v 20 = .bool true := hV 20 D20
      exact Inv.wp_move (.inl rfl) ((hin 20 _ _ rfl rfl).trans E20) (hK.out _ W ⟨HM, flow_vals hV rfl⟩)
    · intro L v W aAct hF hn hd hin hout K hK
      obtain ⟨HM, hV⟩ := hF
      have D21 : L 21 = true := hd ⟨21, Go.Ground.guard⟩ (by simp) rfl
      have E21 : v 21 = .bool true := hV 21 D21
      rw [if_neg (by rw [Inv.wanted_of (b := true) rfl rfl rfl ((hin 21 _ _ rfl rfl).trans E21)]; decide)]
      exact hK.out _ W ⟨HM, flow_vals hV rfl⟩
    · intro L v W aAct hF hn hd hin hout K hK
      obtain ⟨HM, hV⟩ := hF
      have D21 : L 21 = true := hd ⟨21, Go.Ground.guard⟩ (by simp) rfl
      have E21 : v 21 = .bool true := hV 21 D21
      rw [if_neg (by rw [Inv.wanted_of (b := true) rfl rfl rfl ((hin 21 _ _ rfl rfl).trans E21)]; decide)]
      exact hK.out _ W ⟨HM, flow_vals hV rfl⟩
    · intro L v W aAct hF hn hd hin hout K hK
      obtain ⟨HM, hV⟩ := hF
      have D21 : L 21 = true := hd ⟨21, Go.Ground.guard⟩ (by simp) rfl
      have E21 : v 21 = .bool true := hV 21 D21
      rw [if_neg (by rw [Inv.wanted_of (b := true) rfl rfl rfl ((hin 21 _ _ rfl rfl).trans E21)]; decide)]
      exact hK.out _ W ⟨HM, flow_vals hV rfl⟩
    · intro L v W aAct hF hn hd hin hout K hK
      obtain ⟨HM, hV⟩ := hF
      have D21 : L 21 = true := hd ⟨21, Go.Ground.guard⟩ (by simp) rfl
      have E21 : v 21 = .bool true := hV 21 D21
      rw [if_neg (by rw [Inv.wanted_of (b := true) rfl rfl rfl ((hin 21 _ _ rfl rfl).trans E21)]; decide)]
      exact hK.out _ W ⟨HM, flow_vals hV rfl⟩
    · intro L v W aAct hF hn hd hin hout K hK
      obtain ⟨HM, hV⟩ := hF
      have D21 : L 21 = true := hd ⟨21, Go.Ground.guard⟩ (by simp) rfl
      have E21 : v 21 = .bool true := hV 21 D21
      rw [if_neg (by rw [Inv.wanted_of (b := true) rfl rfl rfl ((hin 21 _ _ rfl rfl).trans E21)]; decide)]
      exact hK.out _ W ⟨HM, flow_vals hV rfl⟩
    · intro L v W aAct hF hn hd hin hout K hK
      obtain ⟨HM, hV⟩ := hF
      have D21 : L 21 = true := hd ⟨21, Go.Ground.guard⟩ (by simp) rfl
      have E21 : v 21 = .bool true := hV 21 D21
      rw [if_neg (by rw [Inv.wanted_of (b := true) rfl rfl rfl ((hin 21 _ _ rfl rfl).trans E21)]; decide)]
      exact hK.out _ W ⟨HM, flow_vals hV rfl⟩
    · intro L v W aAct hF hn hd hin hout K hK
      obtain ⟨HM, hV⟩ := hF
      have D21 : L 21 = true := hd ⟨21, Go.Ground.guard⟩ (by simp) rfl
      have E21 : v 21 = .bool true := hV 21 D21
      rw [if_neg (by rw [Inv.wanted_of (b := true) rfl rfl rfl ((hin 21 _ _ rfl rfl).trans E21)]; decide)]
      exact hK.out _ W ⟨HM, flow_vals hV rfl⟩
    · intro L v W aAct hF hn hd hin hout K hK
      obtain ⟨HM, hV⟩ := hF
      have D21 : L 21 = true := hd ⟨21, Go.Ground.guard⟩ (by simp) rfl
      have E21 : v 21 = .bool true := hV 21 D21
      rw [if_neg (by rw [Inv.wanted_of (b := true) rfl rfl rfl ((hin 21 _ _ rfl rfl).trans E21)]; decide)]
      exact hK.out _ W ⟨HM, flow_vals hV rfl⟩
    · intro L v W aAct hF hn hd hin hout K hK
      obtain ⟨HM, hV⟩ := hF
      have D21 : L 21 = true := hd ⟨21, Go.Ground.guard⟩ (by simp) rfl
      have E21 : v 21 = .bool true := hV 21 D21
      rw [if_neg (by rw [Inv.wanted_of (b := true) rfl rfl rfl ((hin 21 _ _ rfl rfl).trans E21)]; decide)]
      exact hK.out _ W ⟨HM, flow_vals hV rfl⟩
    · intro L v W aAct hF hn hd hin hout K hK
      obtain ⟨HM, hV⟩ := hF
      have D21 : L 21 = true := hd ⟨21, Go.Ground.data⟩ (by simp) rfl
      rw [if_pos (by rfl)]
      have E21 : v 21 = .bool true := hV 21 D21
      exact Inv.wp_pick rfl ((hin 21 _ _ rfl rfl).trans E21) ((if_pos rfl).trans rfl) (hK.out _ W ⟨HM, flow_vals hV rfl⟩)
    · intro L v W aAct hF hn hd hin hout K hK
      obtain ⟨HM, hV⟩ := hF
      have D31 : L 31 = true := hd ⟨31, Go.Ground.data⟩ (by simp) rfl
      rw [if_pos (by rfl)]
      have E31 : v 31 = .bool true := hV 31 D31
      exact Inv.wp_move (.inl rfl) ((hin 31 _ _ rfl rfl).trans E31) (hK.out _ W ⟨HM, flow_vals hV rfl⟩)
    · intro L v W aAct hF hn hd hin hout K hK
      obtain ⟨HM, hV⟩ := hF
      have D32 : L 32 = true := hd ⟨32, Go.Ground.guard⟩ (by simp) rfl
      have E32 : v 32 = .bool true := hV 32 D32
      rw [if_neg (by rw [Inv.wanted_of (b := true) rfl rfl rfl ((hin 32 _ _ rfl rfl).trans E32)]; decide)]
      exact hK.out _ W ⟨HM, flow_vals hV rfl⟩
    · intro L v W aAct hF hn hd hin hout K hK
      obtain ⟨HM, hV⟩ := hF
      have D32 : L 32 = true := hd ⟨32, Go.Ground.guard⟩ (by simp) rfl
      have E32 : v 32 = .bool true := hV 32 D32
      rw [if_neg (by rw [Inv.wanted_of (b := true) rfl rfl rfl ((hin 32 _ _ rfl rfl).trans E32)]; decide)]
      exact hK.out _ W ⟨HM, flow_vals hV rfl⟩
    · intro L v W aAct hF hn hd hin hout K hK
      obtain ⟨HM, hV⟩ := hF
      have D32 : L 32 = true := hd ⟨32, Go.Ground.guard⟩ (by simp) rfl
      have E32 : v 32 = .bool true := hV 32 D32
      rw [if_neg (by rw [Inv.wanted_of (b := true) rfl rfl rfl ((hin 32 _ _ rfl rfl).trans E32)]; decide)]
      exact hK.out _ W ⟨HM, flow_vals hV rfl⟩
    · intro L v W aAct hF hn hd hin hout K hK
      obtain ⟨HM, hV⟩ := hF
      have D32 : L 32 = true := hd ⟨32, Go.Ground.guard⟩ (by simp) rfl
      have E32 : v 32 = .bool true := hV 32 D32
      rw [if_neg (by rw [Inv.wanted_of (b := true) rfl rfl rfl ((hin 32 _ _ rfl rfl).trans E32)]; decide)]
      exact hK.out _ W ⟨HM, flow_vals hV rfl⟩
    · intro L v W aAct hF hn hd hin hout K hK
      obtain ⟨HM, hV⟩ := hF
      have D32 : L 32 = true := hd ⟨32, Go.Ground.guard⟩ (by simp) rfl
      have E32 : v 32 = .bool true := hV 32 D32
      rw [if_neg (by rw [Inv.wanted_of (b := true) rfl rfl rfl ((hin 32 _ _ rfl rfl).trans E32)]; decide)]
      exact hK.out _ W ⟨HM, flow_vals hV rfl⟩
    · intro L v W aAct hF hn hd hin hout K hK
      obtain ⟨HM, hV⟩ := hF
      have D32 : L 32 = true := hd ⟨32, Go.Ground.guard⟩ (by simp) rfl
      have E32 : v 32 = .bool true := hV 32 D32
      rw [if_neg (by rw [Inv.wanted_of (b := true) rfl rfl rfl ((hin 32 _ _ rfl rfl).trans E32)]; decide)]
      exact hK.out _ W ⟨HM, flow_vals hV rfl⟩
    · intro L v W aAct hF hn hd hin hout K hK
      obtain ⟨HM, hV⟩ := hF
      have D32 : L 32 = true := hd ⟨32, Go.Ground.guard⟩ (by simp) rfl
      have E32 : v 32 = .bool true := hV 32 D32
      rw [if_neg (by rw [Inv.wanted_of (b := true) rfl rfl rfl ((hin 32 _ _ rfl rfl).trans E32)]; decide)]
      exact hK.out _ W ⟨HM, flow_vals hV rfl⟩
    · intro L v W aAct hF hn hd hin hout K hK
      obtain ⟨HM, hV⟩ := hF
      have D32 : L 32 = true := hd ⟨32, Go.Ground.guard⟩ (by simp) rfl
      have E32 : v 32 = .bool true := hV 32 D32
      rw [if_neg (by rw [Inv.wanted_of (b := true) rfl rfl rfl ((hin 32 _ _ rfl rfl).trans E32)]; decide)]
      exact hK.out _ W ⟨HM, flow_vals hV rfl⟩
    · intro L v W aAct hF hn hd hin hout K hK
      obtain ⟨HM, hV⟩ := hF
      have D32 : L 32 = true := hd ⟨32, Go.Ground.guard⟩ (by simp) rfl
      have E32 : v 32 = .bool true := hV 32 D32
      rw [if_neg (by rw [Inv.wanted_of (b := true) rfl rfl rfl ((hin 32 _ _ rfl rfl).trans E32)]; decide)]
      exact hK.out _ W ⟨HM, flow_vals hV rfl⟩
    · intro L v W aAct hF hn hd hin hout K hK
      obtain ⟨HM, hV⟩ := hF
      have D32 : L 32 = true := hd ⟨32, Go.Ground.data⟩ (by simp) rfl
      rw [if_pos (by rfl)]
      have E32 : v 32 = .bool true := hV 32 D32
      exact Inv.wp_pick rfl ((hin 32 _ _ rfl rfl).trans E32) ((if_pos rfl).trans rfl) (hK.out _ W ⟨HM, flow_vals hV rfl⟩)
    · intro L v W aAct hF hn hd hin hout K hK
      obtain ⟨HM, hV⟩ := hF
      have D42 : L 42 = true := hd ⟨42, Go.Ground.data⟩ (by simp) rfl
      rw [if_pos (by rfl)]
      have E42 : v 42 = .bool true := hV 42 D42
      exact Inv.wp_move (.inl rfl) ((hin 42 _ _ rfl rfl).trans E42) (hK.out _ W ⟨HM, flow_vals hV rfl⟩)
    · intro L v W aAct hF hn hd hin hout K hK
      obtain ⟨HM, hV⟩ := hF
      have D43 : L 43 = true := hd ⟨43, Go.Ground.guard⟩ (by simp) rfl
      have E43 : v 43 = .bool true := hV 43 D43
      rw [if_neg (by rw [Inv.wanted_of (b := true) rfl rfl rfl ((hin 43 _ _ rfl rfl).trans E43)]; decide)]
      exact hK.out _ W ⟨HM, flow_vals hV rfl⟩
    · intro L v W aAct hF hn hd hin hout K hK
      obtain ⟨HM, hV⟩ := hF
      have D43 : L 43 = true := hd ⟨43, Go.Ground.guard⟩ (by simp) rfl
      have E43 : v 43 = .bool true := hV 43 D43
      rw [if_neg (by rw [Inv.wanted_of (b := true) rfl rfl rfl ((hin 43 _ _ rfl rfl).trans E43)]; decide)]
      exact hK.out _ W ⟨HM, flow_vals hV rfl⟩
    · intro L v W aAct hF hn hd hin hout K hK
      obtain ⟨HM, hV⟩ := hF
      have D43 : L 43 = true := hd ⟨43, Go.Ground.guard⟩ (by simp) rfl
      have E43 : v 43 = .bool true := hV 43 D43
      rw [if_neg (by rw [Inv.wanted_of (b := true) rfl rfl rfl ((hin 43 _ _ rfl rfl).trans E43)]; decide)]
      exact hK.out _ W ⟨HM, flow_vals hV rfl⟩
    · intro L v W aAct hF hn hd hin hout K hK
      obtain ⟨HM, hV⟩ := hF
      have D43 : L 43 = true := hd ⟨43, Go.Ground.guard⟩ (by simp) rfl
      have E43 : v 43 = .bool true := hV 43 D43
      rw [if_neg (by rw [Inv.wanted_of (b := true) rfl rfl rfl ((hin 43 _ _ rfl rfl).trans E43)]; decide)]
      exact hK.out _ W ⟨HM, flow_vals hV rfl⟩
    · intro L v W aAct hF hn hd hin hout K hK
      obtain ⟨HM, hV⟩ := hF
      have D43 : L 43 = true := hd ⟨43, Go.Ground.guard⟩ (by simp) rfl
      have E43 : v 43 = .bool true := hV 43 D43
      rw [if_neg (by rw [Inv.wanted_of (b := true) rfl rfl rfl ((hin 43 _ _ rfl rfl).trans E43)]; decide)]
      exact hK.out _ W ⟨HM, flow_vals hV rfl⟩
    · intro L v W aAct hF hn hd hin hout K hK
      obtain ⟨HM, hV⟩ := hF
      have D43 : L 43 = true := hd ⟨43, Go.Ground.guard⟩ (by simp) rfl
      have E43 : v 43 = .bool true := hV 43 D43
      rw [if_neg (by rw [Inv.wanted_of (b := true) rfl rfl rfl ((hin 43 _ _ rfl rfl).trans E43)]; decide)]
      exact hK.out _ W ⟨HM, flow_vals hV rfl⟩
    · intro L v W aAct hF hn hd hin hout K hK
      obtain ⟨HM, hV⟩ := hF
      have D43 : L 43 = true := hd ⟨43, Go.Ground.guard⟩ (by simp) rfl
      have E43 : v 43 = .bool true := hV 43 D43
      rw [if_neg (by rw [Inv.wanted_of (b := true) rfl rfl rfl ((hin 43 _ _ rfl rfl).trans E43)]; decide)]
      exact hK.out _ W ⟨HM, flow_vals hV rfl⟩
    · intro L v W aAct hF hn hd hin hout K hK
      obtain ⟨HM, hV⟩ := hF
      have D43 : L 43 = true := hd ⟨43, Go.Ground.guard⟩ (by simp) rfl
      have E43 : v 43 = .bool true := hV 43 D43
      rw [if_neg (by rw [Inv.wanted_of (b := true) rfl rfl rfl ((hin 43 _ _ rfl rfl).trans E43)]; decide)]
      exact hK.out _ W ⟨HM, flow_vals hV rfl⟩
    · intro L v W aAct hF hn hd hin hout K hK
      obtain ⟨HM, hV⟩ := hF
      have D43 : L 43 = true := hd ⟨43, Go.Ground.chain⟩ (by simp) rfl
      have E43 : v 43 = .bool true := hV 43 D43
      rw [if_neg (by rw [Inv.wanted_of (b := true) rfl rfl rfl ((hin 43 _ _ rfl rfl).trans E43)]; decide)]
      exact hK.out _ W ⟨HM, flow_vals hV rfl⟩
    · intro L v W aAct hF hn hd hin hout K hK
      obtain ⟨HM, hV⟩ := hF
      have D43 : L 43 = true := hd ⟨43, Go.Ground.guard⟩ (by simp) rfl
      have E43 : v 43 = .bool true := hV 43 D43
      rw [if_neg (by rw [Inv.wanted_of (b := true) rfl rfl rfl ((hin 43 _ _ rfl rfl).trans E43)]; decide)]
      exact hK.out _ W ⟨HM, flow_vals hV rfl⟩
    · intro L v W aAct hF hn hd hin hout K hK
      obtain ⟨HM, hV⟩ := hF
      have D43 : L 43 = true := hd ⟨43, Go.Ground.data⟩ (by simp) rfl
      rw [if_pos (by rfl)]
      have E43 : v 43 = .bool true := hV 43 D43
      exact Inv.wp_pick rfl ((hin 43 _ _ rfl rfl).trans E43) ((if_pos rfl).trans rfl) (hK.out _ W ⟨HM, flow_vals hV rfl⟩)
    · intro L v W aAct hF hn hd hin hout K hK
      obtain ⟨HM, hV⟩ := hF
      have D54 : L 54 = true := hd ⟨54, Go.Ground.data⟩ (by simp) rfl
      rw [if_pos (by rfl)]
      have E54 : v 54 = .bool true := hV 54 D54
      exact Inv.wp_move (.inl rfl) ((hin 54 _ _ rfl rfl).trans E54) (hK.out _ W ⟨HM, flow_vals hV rfl⟩)
    · intro L v W aAct hF hn hd hin hout K hK
      obtain ⟨HM, hV⟩ := hF
      have D55 : L 55 = true := hd ⟨55, Go.Ground.guard⟩ (by simp) rfl
      have E55 : v 55 = .bool true := hV 55 D55
      rw [if_neg (by rw [Inv.wanted_of (b := true) rfl rfl rfl ((hin 55 _ _ rfl rfl).trans E55)]; decide)]
      exact hK.out _ W ⟨HM, flow_vals hV rfl⟩
    · intro L v W aAct hF hn hd hin hout K hK
      obtain ⟨HM, hV⟩ := hF
      have D55 : L 55 = true := hd ⟨55, Go.Ground.guard⟩ (by simp) rfl
      have E55 : v 55 = .bool true := hV 55 D55
      rw [if_neg (by rw [Inv.wanted_of (b := true) rfl rfl rfl ((hin 55 _ _ rfl rfl).trans E55)]; decide)]
      exact hK.out _ W ⟨HM, flow_vals hV rfl⟩
    · intro L v W aAct hF hn hd hin hout K hK
      obtain ⟨HM, hV⟩ := hF
      have D55 : L 55 = true := hd ⟨55, Go.Ground.guard⟩ (by simp) rfl
      have E55 : v 55 = .bool true := hV 55 D55
      rw [if_neg (by rw [Inv.wanted_of (b := true) rfl rfl rfl ((hin 55 _ _ rfl rfl).trans E55)]; decide)]
      exact hK.out _ W ⟨HM, flow_vals hV rfl⟩
    · intro L v W aAct hF hn hd hin hout K hK
      obtain ⟨HM, hV⟩ := hF
      have D55 : L 55 = true := hd ⟨55, Go.Ground.guard⟩ (by simp) rfl
      have E55 : v 55 = .bool true := hV 55 D55
      rw [if_neg (by rw [Inv.wanted_of (b := true) rfl rfl rfl ((hin 55 _ _ rfl rfl).trans E55)]; decide)]
      exact hK.out _ W ⟨HM, flow_vals hV rfl⟩
    · intro L v W aAct hF hn hd hin hout K hK
      obtain ⟨HM, hV⟩ := hF
      have D55 : L 55 = true := hd ⟨55, Go.Ground.guard⟩ (by simp) rfl
      have E55 : v 55 = .bool true := hV 55 D55
      rw [if_neg (by rw [Inv.wanted_of (b := true) rfl rfl rfl ((hin 55 _ _ rfl rfl).trans E55)]; decide)]
      exact hK.out _ W ⟨HM, flow_vals hV rfl⟩
    · intro L v W aAct hF hn hd hin hout K hK
      obtain ⟨HM, hV⟩ := hF
      have D55 : L 55 = true := hd ⟨55, Go.Ground.guard⟩ (by simp) rfl
      have E55 : v 55 = .bool true := hV 55 D55
      rw [if_neg (by rw [Inv.wanted_of (b := true) rfl rfl rfl ((hin 55 _ _ rfl rfl).trans E55)]; decide)]
      exact hK.out _ W ⟨HM, flow_vals hV rfl⟩
    · intro L v W aAct hF hn hd hin hout K hK
      obtain ⟨HM, hV⟩ := hF
      have D55 : L 55 = true := hd ⟨55, Go.Ground.guard⟩ (by simp) rfl
      have E55 : v 55 = .bool true := hV 55 D55
      rw [if_neg (by rw [Inv.wanted_of (b := true) rfl rfl rfl ((hin 55 _ _ rfl rfl).trans E55)]; decide)]
      exact hK.out _ W ⟨HM, flow_vals hV rfl⟩
    · intro L v W aAct hF hn hd hin hout K hK
      obtain ⟨HM, hV⟩ := hF
      have D55 : L 55 = true := hd ⟨55, Go.Ground.guard⟩ (by simp) rfl
      have E55 : v 55 = .bool true := hV 55 D55
      rw [if_neg (by rw [Inv.wanted_of (b := true) rfl rfl rfl ((hin 55 _ _ rfl rfl).trans E55)]; decide)]
      exact hK.out _ W ⟨HM, flow_vals hV rfl⟩
    · intro L v W aAct hF hn hd hin hout K hK
      obtain ⟨HM, hV⟩ := hF
      have D55 : L 55 = true := hd ⟨55, Go.Ground.guard⟩ (by simp) rfl
      have E55 : v 55 = .bool true := hV 55 D55
      rw [if_neg (by rw [Inv.wanted_of (b := true) rfl rfl rfl ((hin 55 _ _ rfl rfl).trans E55)]; decide)]
      exact hK.out _ W ⟨HM, flow_vals hV rfl⟩
    · intro L v W aAct hF hn hd hin hout K hK
      obtain ⟨HM, hV⟩ := hF
      have D55 : L 55 = true := hd ⟨55, Go.Ground.guard⟩ (by simp) rfl
      have E55 : v 55 = .bool true := hV 55 D55
      rw [if_neg (by rw [Inv.wanted_of (b := true) rfl rfl rfl ((hin 55 _ _ rfl rfl).trans E55)]; decide)]
      exact hK.out _ W ⟨HM, flow_vals hV rfl⟩
    · intro L v W aAct hF hn hd hin hout K hK
      obtain ⟨HM, hV⟩ := hF
      have D55 : L 55 = true := hd ⟨55, Go.Ground.guard⟩ (by simp) rfl
      have E55 : v 55 = .bool true := hV 55 D55
      rw [if_neg (by rw [Inv.wanted_of (b := true) rfl rfl rfl ((hin 55 _ _ rfl rfl).trans E55)]; decide)]
      exact hK.out _ W ⟨HM, flow_vals hV rfl⟩
    · intro L v W aAct hF hn hd hin hout K hK
      obtain ⟨HM, hV⟩ := hF
      have D55 : L 55 = true := hd ⟨55, Go.Ground.data⟩ (by simp) rfl
      rw [if_pos (by rfl)]
      have E55 : v 55 = .bool true := hV 55 D55
      exact Inv.wp_pick rfl ((hin 55 _ _ rfl rfl).trans E55) ((if_pos rfl).trans rfl) (hK.out _ W ⟨HM, flow_vals hV rfl⟩)
    clear HM
    intro L v W2 hL hF
    obtain ⟨HM, hV⟩ := hF
    have E67 : v 67 = .bool true := hV 67 (hL 67 rfl)
    simp only [Inv.putAll, List.append, Act.put, List.setIfInBounds_toArray, List.set_cons_zero, List.set_cons_succ, E67]
    clear hV hL E67
    obtain ⟨W, hWW⟩ : ∃ W, W = W2 := ⟨_, rfl⟩; subst hWW
    go_wp2_with fail
    simp [bodyPost, results, Try.results16, go_sem]
    exact ⟨_, rfl, by rw [HR.out]; exact rfl, HM.below⟩
  · skip
    cases b1 : sameT a0 a1
    · have HP2 : Aside (∀ w, Calls Try.prog 34 #[.agg #[.float .f32 a0.1, .float .f32 a0.2.1, .float .f32 a0.2.2], .agg #[.float .f32 a1.1, .float .f32 a1.2.1, .float .f32 a1.2.2]] w (Gives (isB false) w)) := by
        have HP : ∀ w, Calls Try.prog 34 #[.agg #[.float .f32 a0.1, .float .f32 a0.2.1, .float .f32 a0.2.2], .agg #[.float .f32 a1.1, .float .f32 a1.2.1, .float .f32 a1.2.2]] w (Gives (isB (sameT a0 a1)) w) := fun w => l01SamePoint_any a0.1 a0.2.1 a0.2.2 a1.1 a1.2.1 a1.2.2 w
        rw [b1] at HP
        exact HP
      have n0 : (k0 != k1) = false := by simp only [bne, b0, Bool.not_true, Bool.not_false]
      have HR : Aside (sameC k0 k1 a0 a1 s0 s1 f0 f1 h0 h1 z0 z1 = false) := by show sameC k0 k1 a0 a1 s0 s1 f0 f1 h0 h1 z0 z1 = false; unfold sameC; simp only [b0, b1, Bool.true_and, Bool.false_and, Bool.and_false, Bool.and_self]
      go_enter Try.func16, Try.ntmps16
      go_wp2_with fail
      refine Inv.wp_region_flow (F := fun L v W => Mem w W [(p, [.int .i8 k0, .float .f32 a0.1, .float .f32 a0.2.1, .float .f32 a0.2.2, .int .i64 s0, .int .i64 f0, .float .f32 h0, .slice x0 z0.length y0]), (q, [.int .i8 k1, .float .f32 a1.1, .float .f32 a1.2.1, .float .f32 a1.2.2, .int .i64 s1, .int .i64 f1, .float .f32 h1, .slice x1 z1.length y1])] [] ∧ ∀ j, L j = true → v j = ([.pointer (some ⟨p, 0, none⟩), .pointer (some ⟨p, 0, none⟩), .pointer (some ⟨p, 0, none⟩), .int .i8 k0, .pointer (some ⟨q, 0, none⟩), .pointer (some ⟨q, 0, none⟩), .pointer (some ⟨q, 0, none⟩), .int .i8 k1, .bool false, .bool false, .pointer (some ⟨p, 0, none⟩), .pointer (some ⟨p, 0, none⟩), .pointer (some ⟨p, 1, none⟩), .agg #[.float .f32 a0.1, .float .f32 a0.2.1, .float .f32 a0.2.2], .pointer (some ⟨q, 0, none⟩), .pointer (some ⟨q, 0, none⟩), .pointer (some ⟨q, 1, none⟩), .agg #[.float .f32 a1.1, .float .f32 a1.2.1, .float .f32 a1.2.2], .bool false, .bool true, .bool true, .bool true, undef, undef, undef, undef, undef, undef, undef, undef, undef, .bool true, .bool true, undef, undef, undef, undef, undef, undef, undef, undef, undef, .bool true, .bool true, undef, undef, undef, undef, undef, undef, undef, undef, undef, undef, .bool true, .bool true, undef, undef, undef, undef, undef, undef, undef, undef, undef, undef, undef, .bool true] : List Value).getD j undef) (by kernel_rfl) (by kernel_rfl) (by kernel_rfl) (fun v => ⟨HM.drew, fun j h => absurd h Bool.false_ne_true⟩) ⟨?_, ?_, ?_, ?_, ?_, ?_, ?_, ?_, ?_, ?_, ?_, ?_, ?_, ?_, ?_, ?_, ?_, ?_, ?_, ?_, ?_, ?_, ?_, ?_, ?_, ?_, ?_, ?_, ?_, ?_, ?_, ?_, ?_, ?_, ?_, ?_, ?_, ?_, ?_, ?_, ?_, ?_, ?_, ?_, ?_, ?_, ?_, ?_, ?_, ?_, ?_, ?_, ?_, ?_, ?_, ?_, ?_, ?_, ?_, ?_, ?_, ?_, ?_, ?_, ?_, ?_, ?_, ?_, trivial⟩ ?_
      · intro L v W aAct hF hn hd hin hout K hK
        obtain ⟨HM, hV⟩ := hF
        rw [if_pos (by rfl)]
        exact Inv.wp_move (.inl rfl) ((hout 0 rfl).trans rfl) (hK.out _ W ⟨HM, flow_vals hV rfl⟩)
      · intro L v W aAct hF hn hd hin hout K hK
        obtain ⟨HM, hV⟩ := hF
        have D0 : L 0 = true := hd ⟨0, Go.Ground.data⟩ (by simp) rfl
        rw [if_pos (by rfl)]
        have E0 : v 0 = .pointer (some ⟨p, 0, none⟩) := hV 0 D0
        exact Inv.wp_nilCheck rfl ((hin 0 _ _ rfl rfl).trans E0) (hK.out _ W ⟨HM, flow_vals hV rfl⟩)
      · intro L v W aAct hF hn hd hin hout K hK
        obtain ⟨HM, hV⟩ := hF
        have D1 : L 1 = true := hd ⟨1, Go.Ground.data⟩ (by simp) rfl
        rw [if_pos (by rfl)]
        have E1 : v 1 = .pointer (some ⟨p, 0, none⟩) := hV 1 D1
        exact Inv.wp_fieldAddr (u := .pointer (some ⟨p, 0, none⟩)) rfl ((hin 1 _ _ rfl rfl).trans E1) (fun _ => by kernel_rfl) (hK.out _ W ⟨HM, flow_vals hV rfl⟩)
      · intro L v W aAct hF hn hd hin hout K hK
        obtain ⟨HM, hV⟩ := hF
        have D2 : L 2 = true := hd ⟨2, Go.Ground.data⟩ (by simp) rfl
        rw [if_pos (by rfl)]
        have E2 : v 2 = .pointer (some ⟨p, 0, none⟩) := hV 2 D2
        exact Mem.wp_load_one HM rfl ((hin 2 _ _ rfl rfl).trans E2) (by kernel_rfl) (.inr (.head _)) rfl (hK.out _ W ⟨HM, flow_vals hV rfl⟩)
      · intro L v W aAct hF hn hd hin hout K hK
        obtain ⟨HM, hV⟩ := hF
        rw [if_pos (by rfl)]
        exact Inv.wp_move (.inl rfl) ((hout 1 rfl).trans rfl) (hK.out _ W ⟨HM, flow_vals hV rfl⟩)
      · intro L v W aAct hF hn hd hin hout K hK
        obtain ⟨HM, hV⟩ := hF
        have D4 : L 4 = true := hd ⟨4, Go.Ground.data⟩ (by simp) rfl
        rw [if_pos (by rfl)]
        have E4 : v 4 = .pointer (some ⟨q, 0, none⟩) := hV 4 D4
        exact Inv.wp_nilCheck rfl ((hin 4 _ _ rfl rfl).trans E4) (hK.out _ W ⟨HM, flow_vals hV rfl⟩)
      · intro L v W aAct hF hn hd hin hout K hK
        obtain ⟨HM, hV⟩ := hF
        have D5 : L 5 = true := hd ⟨5, Go.Ground.data⟩ (by simp) rfl
        rw [if_pos (by rfl)]
        have E5 : v 5 = .pointer (some ⟨q, 0, none⟩) := hV 5 D5
        exact Inv.wp_fieldAddr (u := .pointer (some ⟨q, 0, none⟩)) rfl ((hin 5 _ _ rfl rfl).trans E5) (fun _ => by kernel_rfl) (hK.out _ W ⟨HM, flow_vals hV rfl⟩)
      · intro L v W aAct hF hn hd hin hout K hK
        obtain ⟨HM, hV⟩ := hF
        have D6 : L 6 = true := hd ⟨6, Go.Ground.data⟩ (by simp) rfl
        rw [if_pos (by rfl)]
        have E6 : v 6 = .pointer (some ⟨q, 0, none⟩) := hV 6 D6
        exact Mem.wp_load_one HM rfl ((hin 6 _ _ rfl rfl).trans E6) (by kernel_rfl) (.inr (.tail _ (.head _))) rfl (hK.out _ W ⟨HM, flow_vals hV rfl⟩)
      · intro L v W aAct hF hn hd hin hout K hK
        obtain ⟨HM, hV⟩ := hF
        have D3 : L 3 = true := hd ⟨3, Go.Ground.data⟩ (by simp) rfl
        have D7 : L 7 = true := hd ⟨7, Go.Ground.data⟩ (by simp) rfl
        rw [if_pos (by rfl)]
        have E3 : v 3 = .int .i8 k0 := hV 3 D3
        have E7 : v 7 = .int .i8 k1 := hV 7 D7
        exact Inv.wp_binop (u := .bool false) rfl ((hin 3 _ _ rfl rfl).trans E3) ((hin 7 _ _ rfl rfl).trans E7) (fun w => (run_neq_intE _ _ _ _ w).trans (by rw [n0])) (hK.out _ W ⟨HM, flow_vals hV rfl⟩)
      · intro L v W aAct hF hn hd hin hout K hK
        obtain ⟨HM, hV⟩ := hF
        have D8 : L 8 = true := hd ⟨8, Go.Ground.data⟩ (by simp) rfl
        rw [if_pos (by rfl)]
        have E8 : v 8 = .bool false := hV 8 D8
        exact Inv.wp_move (.inl rfl) ((hin 8 _ _ rfl rfl).trans E8) (hK.out _ W ⟨HM, flow_vals hV rfl⟩)
      · intro L v W aAct hF hn hd hin hout K hK
        obtain ⟨HM, hV⟩ := hF
        have D9 : L 9 = true := hd ⟨9, Go.Ground.guard⟩ (by simp) rfl
        have E9 : v 9 = .bool false := hV 9 D9
        rw [if_pos (by rw [Inv.wanted_of (b := false) rfl rfl rfl ((hin 9 _ _ rfl rfl).trans E9)]; decide)]
        exact Inv.wp_move (.inl rfl) ((hout 0 rfl).trans rfl) (hK.out _ W ⟨HM, flow_vals hV rfl⟩)
      · intro L v W aAct hF hn hd hin hout K hK
        obtain ⟨HM, hV⟩ := hF
        have D10 : L 10 = true := hd ⟨10, Go.Ground.data⟩ (by simp) rfl
        have D9 : L 9 = true := hd ⟨9, Go.Ground.guard⟩ (by simp) rfl
        have E9 : v 9 = .bool false := hV 9 D9
        rw [if_pos (by rw [Inv.wanted_of (b := false) rfl rfl rfl ((hin 9 _ _ rfl rfl).trans E9)]; decide)]
        have E10 : v 10 = .pointer (some ⟨p, 0, none⟩) := hV 10 D10
        exact Inv.wp_nilCheck rfl ((hin 10 _ _ rfl rfl).trans E10) (hK.out _ W ⟨HM, flow_vals hV rfl⟩)
      · intro L v W aAct hF hn hd hin hout K hK
        obtain ⟨HM, hV⟩ := hF
        have D11 : L 11 = true := hd ⟨11, Go.Ground.data⟩ (by simp) rfl
        have D9 : L 9 = true := hd ⟨9, Go.Ground.guard⟩ (by simp) rfl
        have E9 : v 9 = .bool false := hV 9 D9
        rw [if_pos (by rw [Inv.wanted_of (b := false) rfl rfl rfl ((hin 9 _ _ rfl rfl).trans E9)]; decide)]
        have E11 : v 11 = .pointer (some ⟨p, 0, none⟩) := hV 11 D11
        exact Inv.wp_fieldAddr (u := .pointer (some ⟨p, 1, none⟩)) rfl ((hin 11 _ _ rfl rfl).trans E11) (fun _ => by kernel_rfl) (hK.out _ W ⟨HM, flow_vals hV rfl⟩)
      · intro L v W aAct hF hn hd hin hout K hK
        obtain ⟨HM, hV⟩ := hF
        have D12 : L 12 = true := hd ⟨12, Go.Ground.data⟩ (by simp) rfl
        have D9 : L 9 = true := hd ⟨9, Go.Ground.guard⟩ (by simp) rfl
        have E9 : v 9 = .bool false := hV 9 D9
        rw [if_pos (by rw [Inv.wanted_of (b := false) rfl rfl rfl ((hin 9 _ _ rfl rfl).trans E9)]; decide)]
        have E12 : v 12 = .pointer (some ⟨p, 1, none⟩) := hV 12 D12
        exact Mem.wp_load_row HM 3 rfl ((hin 12 _ _ rfl rfl).trans E12) (by kernel_rfl) (.inr (.head _)) rfl rfl (hK.out _ W ⟨HM, flow_vals hV rfl⟩)
      · intro L v W aAct hF hn hd hin hout K hK
        obtain ⟨HM, hV⟩ := hF
        have D9 : L 9 = true := hd ⟨9, Go.Ground.guard⟩ (by simp) rfl
        have E9 : v 9 = .bool false := hV 9 D9
        rw [if_pos (by rw [Inv.wanted_of (b := false) rfl rfl rfl ((hin 9 _ _ rfl rfl).trans E9)]; decide)]
        exact Inv.wp_move (.inl rfl) ((hout 1 rfl).trans rfl) (hK.out _ W ⟨HM, flow_vals hV rfl⟩)
      · intro L v W aAct hF hn hd hin hout K hK
        obtain ⟨HM, hV⟩ := hF
        have D14 : L 14 = true := hd ⟨14, Go.Ground.data⟩ (by simp) rfl
        have D9 : L 9 = true := hd ⟨9, Go.Ground.guard⟩ (by simp) rfl
        have E9 : v 9 = .bool false := hV 9 D9
        rw [if_pos (by rw [Inv.wanted_of (b := false) rfl rfl rfl ((hin 9 _ _ rfl rfl).trans E9)]; decide)]
        have E14 : v 14 = .pointer (some ⟨q, 0, none⟩) := hV 14 D14
        exact Inv.wp_nilCheck rfl ((hin 14 _ _ rfl rfl).trans E14) (hK.out _ W ⟨HM, flow_vals hV rfl⟩)
      · intro L v W aAct hF hn hd hin hout K hK
        obtain ⟨HM, hV⟩ := hF
        have D15 : L 15 = true := hd ⟨15, Go.Ground.data⟩ (by simp) rfl
        have D9 : L 9 = true := hd ⟨9, Go.Ground.guard⟩ (by simp) rfl
        have E9 : v 9 = .bool false := hV 9 D9
        rw [if_pos (by rw [Inv.wanted_of (b := false) rfl rfl rfl ((hin 9 _ _ rfl rfl).trans E9)]; decide)]
        have E15 : v 15 = .pointer (some ⟨q, 0, none⟩) := hV 15 D15
        exact Inv.wp_fieldAddr (u := .pointer (some ⟨q, 1, none⟩)) rfl ((hin 15 _ _ rfl rfl).trans E15) (fun _ => by kernel_rfl) (hK.out _ W ⟨HM, flow_vals hV rfl⟩)
      · intro L v W aAct hF hn hd hin hout K hK
        obtain ⟨HM, hV⟩ := hF
        have D16 : L 16 = true := hd ⟨16, Go.Ground.data⟩ (by simp) rfl
        have D9 : L 9 = true := hd ⟨9, Go.Ground.guard⟩ (by simp) rfl
        have E9 : v 9 = .bool false := hV 9 D9
        rw [if_pos (by rw [Inv.wanted_of (b := false) rfl rfl rfl ((hin 9 _ _ rfl rfl).trans E9)]; decide)]
        have E16 : v 16 = .pointer (some ⟨q, 1, none⟩) := hV 16 D16
        exact Mem.wp_load_row HM 3 rfl ((hin 16 _ _ rfl rfl).trans E16) (by kernel_rfl) (.inr (.tail _ (.head _))) rfl rfl (hK.out _ W ⟨HM, flow_vals hV rfl⟩)
      · intro L v W aAct hF hn hd hin hout K hK
        obtain ⟨HM, hV⟩ := hF
        have D13 : L 13 = true := hd ⟨13, Go.Ground.data⟩ (by simp) rfl
        have D17 : L 17 = true := hd ⟨17, Go.Ground.data⟩ (by simp) rfl
        have D9 : L 9 = true := hd ⟨9, Go.Ground.chain⟩ (by simp) rfl
        have E9 : v 9 = .bool false := hV 9 D9
        rw [if_pos (by rw [Inv.wanted_of (b := false) rfl rfl rfl ((hin 9 _ _ rfl rfl).trans E9)]; decide)]
        have E13 : v 13 = .agg #[.float .f32 a0.1, .float .f32 a0.2.1, .float .f32 a0.2.2] := hV 13 D13
        have E17 : v 17 = .agg #[.float .f32 a1.1, .float .f32 a1.2.1, .float .f32 a1.2.2] := hV 17 D17
        refine Inv.wp_call rfl rfl rfl #[.agg #[.float .f32 a0.1, .float .f32 a0.2.1, .float .f32 a0.2.2], .agg #[.float .f32 a1.1, .float .f32 a1.2.1, .float .f32 a1.2.2]] (by simp only [List.map_toArray, List.map_cons, List.map_nil, ((hin 13 _ _ rfl rfl).trans E13), ((hin 17 _ _ rfl rfl).trans E17)]) (by kernel_rfl) ((HP2.out _).mono ?_)
        rintro e W' ⟨_, rfl, rfl, hb⟩
        exact ⟨_, rfl, hK.out _ W' ⟨(HM.call hb), flow_vals hV rfl⟩⟩
      · intro L v W aAct hF hn hd hin hout K hK
        obtain ⟨HM, hV⟩ := hF
        have D18 : L 18 = true := hd ⟨18, Go.Ground.data⟩ (by simp) rfl
        have D9 : L 9 = true := hd ⟨9, Go.Ground.guard⟩ (by simp) rfl
        have E9 : v 9 = .bool false := hV 9 D9
        rw [if_pos (by rw [Inv.wanted_of (b := false) rfl rfl rfl ((hin 9 _ _ rfl rfl).trans E9)]; decide)]
        have E18 : v 18 = .bool false := hV 18 D18
        exact Inv.wp_unop (u := .bool true) rfl ((hin 18 _ _ rfl rfl).trans E18) (fun _ => rfl) (hK.out _ W ⟨HM, flow_vals hV rfl⟩)
      · intro L v W aAct hF hn hd hin hout K hK
        obtain ⟨HM, hV⟩ := hF
        have D9 : L 9 = true := hd ⟨9, Go.Ground.data⟩ (by simp) rfl
        have D19 : L 19 = true := hd ⟨19, Go.Ground.data⟩ (by simp) rfl
        rw [if_pos (by rfl)]
        have E9 : v 9 = .bool false := hV 9 D9
        have E19 : v 19 = .bool true := hV 19 D19
        exact Inv.wp_pick rfl ((hin 9 _ _ rfl rfl).trans E9) ((if_neg Bool.false_ne_true).trans ((hin 19 _ _ rfl rfl).trans E19)) (hK.out _ W ⟨HM, flow_vals hV rfl⟩)
      · intro L v W aAct hF hn hd hin hout K hK
        obtain ⟨HM, hV⟩ := hF
        have D20 : L 20 = true := hd ⟨20, Go.Ground.data⟩ (by simp) rfl
        rw [if_pos (by rfl)]
        have E20 : v 20 = .bool true := hV 20 D20
        exact Inv.wp_move (.inl rfl) ((hin 20 _ _ rfl rfl).trans E20) (hK.out _ W ⟨HM, flow_vals hV rfl⟩)
      · intro L v W aAct hF hn hd hin hout K hK
        obtain ⟨HM, hV⟩ := hF
        have D21 : L 21 = true := hd ⟨21, Go.Ground.guard⟩ (by simp) rfl
        have E21 : v 21 = .bool true := hV 21 D21
        rw [if_neg (by rw [Inv.wanted_of (b := true) rfl rfl rfl ((hin 21 _ _ rfl rfl).trans E21)]; decide)]
        exact hK.out _ W ⟨HM, flow_vals hV rfl⟩
      · intro L v W aAct hF hn hd hin hout K hK
        obtain ⟨HM, hV⟩ := hF
        have D21 : L 21 = true := hd ⟨21, Go.Ground.guard⟩ (by simp) rfl
        have E21 : v 21 = .bool true := hV 21 D21
        rw [if_neg (by rw [Inv.wanted_of (b := true) rfl rfl rfl ((hin 21 _ _ rfl rfl).trans E21)]; decide)]
        exact hK.out _ W ⟨HM, flow_vals hV rfl⟩
      · intro L v W aAct hF hn hd hin hout K hK
        obtain ⟨HM, hV⟩ := hF
        have D21 : L 21 = true := hd ⟨21, Go.Ground.guard⟩ (by simp) rfl
        have E21 : v 21 = .bool true := hV 21 D21
        rw [if_neg (by rw [Inv.wanted_of (b := true) rfl rfl rfl ((hin 21 _ _ rfl rfl).trans E21)]; decide)]
        exact hK.out _ W ⟨HM, flow_vals hV rfl⟩
      · intro L v W aAct hF hn hd hin hout K hK
        obtain ⟨HM, hV⟩ := hF
        have D21 : L 21 = true := hd ⟨21, Go.Ground.guard⟩ (by simp) rfl
        have E21 : v 21 = .bool true := hV 21 D21
        rw [if_neg (by rw [Inv.wanted_of (b := true) rfl rfl rfl ((hin 21 _ _ rfl rfl).trans E21)]; decide)]
        exact hK.out _ W ⟨HM, flow_vals hV rfl⟩
      · intro L v W aAct hF hn hd hin hout K hK
        obtain ⟨HM, hV⟩ := hF
        have D21 : L 21 = true := hd ⟨21, Go.Ground.guard⟩ (by simp) rfl
        have E21 : v 21 = .bool true := hV 21 D21
        rw [if_neg (by rw [Inv.wanted_of (b := true) rfl rfl rfl ((hin 21 _ _ rfl rfl).trans E21)]; decide)]
        exact hK.out _ W ⟨HM, flow_vals hV rfl⟩
      · intro L v W aAct hF hn hd hin hout K hK
        obtain ⟨HM, hV⟩ := hF
        have D21 : L 21 = true := hd ⟨21, Go.Ground.guard⟩ (by simp) rfl
        have E21 : v 21 = .bool true := hV 21 D21
        rw [if_neg (by rw [Inv.wanted_of (b := true) rfl rfl rfl ((hin 21 _ _ rfl rfl).trans E21)]; decide)]
        exact hK.out _ W ⟨HM, flow_vals hV rfl⟩
      · intro L v W aAct hF hn hd hin hout K hK
        obtain ⟨HM, hV⟩ := hF
        have D21 : L 21 = true := hd ⟨21, Go.Ground.guard⟩ (by simp) rfl
        have E21 : v 21 = .bool true := hV 21 D21
        rw [if_neg (by rw [Inv.wanted_of (b := true) rfl rfl rfl ((hin 21 _ _ rfl rfl).trans E21)]; decide)]
        exact hK.out _ W ⟨HM, flow_vals hV rfl⟩
      · intro L v W aAct hF hn hd hin hout K hK
        obtain ⟨HM, hV⟩ := hF
        have D21 : L 21 = true := hd ⟨21, Go.Ground.guard⟩ (by simp) rfl
        have E21 : v 21 = .bool true := hV 21 D21
        rw [if_neg (by rw [Inv.wanted_of (b := true) rfl rfl rfl ((hin 21 _ _ rfl rfl).trans E21)]; decide)]
        exact hK.out _ W ⟨HM, flow_vals hV rfl⟩
      · intro L v W aAct hF hn hd hin hout K hK
        obtain ⟨HM, hV⟩ := hF
        have D21 : L 21 = true := hd ⟨21, Go.Ground.guard⟩ (by simp) rfl
        have E21 : v 21 = .bool true := hV 21 D21
        rw [if_neg (by rw [Inv.wanted_of (b := true) rfl rfl rfl ((hin 21 _ _ rfl rfl).trans E21)]; decide)]
        exact hK.out _ W ⟨HM, flow_vals hV rfl⟩
      · intro L v W aAct hF hn hd hin hout K hK
        obtain ⟨HM, hV⟩ := hF
        have D21 : L 21 = true := hd ⟨21, Go.Ground.data⟩ (by simp) rfl
        rw [if_pos (by rfl)]
        have E21 : v 21 = .bool true := hV 21 D21
        exact Inv.wp_pick rfl ((hin 21 _ _ rfl rfl).trans E21) ((if_pos rfl).trans rfl) (hK.out _ W ⟨HM, flow_vals hV rfl⟩)
      · intro L v W aAct hF hn hd hin hout K hK
        obtain ⟨HM, hV⟩ := hF
        have D31 : L 31 = true := hd ⟨31, Go.Ground.data⟩ (by simp) rfl
        rw [if_pos (by rfl)]
        have E31 : v 31 = .bool true := hV 31 D31
        exact Inv.wp_move (.inl rfl) ((hin 31 _ _ rfl rfl).trans E31) (hK.out _ W ⟨HM, flow_vals hV rfl⟩)
      · intro L v W aAct hF hn hd hin hout K hK
        obtain ⟨HM, hV⟩ := hF
        have D32 : L 32 = true := hd ⟨32, Go.Ground.guard⟩ (by simp) rfl
        have E32 : v 32 = .bool true := hV 32 D32
        rw [if_neg (by rw [Inv.wanted_of (b := true) rfl rfl rfl ((hin 32 _ _ rfl rfl).trans E32)]; decide)]
        exact hK.out _ W ⟨HM, flow_vals hV rfl⟩
      · intro L v W aAct hF hn hd hin hout K hK
        obtain ⟨HM, hV⟩ := hF
        have D32 : L 32 = true := hd ⟨32, Go.Ground.guard⟩ (by simp) rfl
        have E32 : v 32 = .bool true := hV 32 D32
        rw [if_neg (by rw [Inv.wanted_of (b := true) rfl rfl rfl ((hin 32 _ _ rfl rfl).trans E32)]; decide)]
        exact hK.out _ W ⟨HM, flow_vals hV rfl⟩
      · intro L v W aAct hF hn hd hin hout K hK
        obtain ⟨HM, hV⟩ := hF
        have D32 : L 32 = true := hd ⟨32, Go.Ground.guard⟩ (by simp) rfl
        have E32 : v 32 = .bool true := hV 32 D32
        rw [if_neg (by rw [Inv.wanted_of (b := true) rfl rfl rfl ((hin 32 _ _ rfl rfl).trans E32)]; decide)]
        exact hK.out _ W ⟨HM, flow_vals hV rfl⟩
      · intro L v W aAct hF hn hd hin hout K hK
        obtain ⟨HM, hV⟩ := hF
        have D32 : L 32 = true := hd ⟨32, Go.Ground.guard⟩ (by simp) rfl
        have E32 : v 32 = .bool true := hV 32 D32
        rw [if_neg (by rw [Inv.wanted_of (b := true) rfl rfl rfl ((hin 32 _ _ rfl rfl).trans E32)]; decide)]
        exact hK.out _ W ⟨HM, flow_vals hV rfl⟩
      · intro L v W aAct hF hn hd hin hout K hK
        obtain ⟨HM, hV⟩ := hF
        have D32 : L 32 = true := hd ⟨32, Go.Ground.guard⟩ (by simp) rfl
        have E32 : v 32 = .bool true := hV 32 D32
        rw [if_neg (by rw [Inv.wanted_of (b := true) rfl rfl rfl ((hin 32 _ _ rfl rfl).trans E32)]; decide)]
        exact hK.out _ W ⟨HM, flow_vals hV rfl⟩
      · intro L v W aAct hF hn hd hin hout K hK
        obtain ⟨HM, hV⟩ := hF
        have D32 : L 32 = true := hd ⟨32, Go.Ground.guard⟩ (by simp) rfl
        have E32 : v 32 = .bool true := hV 32 D32
        rw [if_neg (by rw [Inv.wanted_of (b := true) rfl rfl rfl ((hin 32 _ _ rfl rfl).trans E32)]; decide)]
        exact hK.out _ W ⟨HM, flow_vals hV rfl⟩
      · intro L v W aAct hF hn hd hin hout K hK
        obtain ⟨HM, hV⟩ := hF
        have D32 : L 32 = true := hd ⟨32, Go.Ground.guard⟩ (by simp) rfl
        have E32 : v 32 = .bool true := hV 32 D32
        rw [if_neg (by rw [Inv.wanted_of (b := true) rfl rfl rfl ((hin 32 _ _ rfl rfl).trans E32)]; decide)]
        exact hK.out _ W ⟨HM, flow_vals hV rfl⟩
      · intro L v W aAct hF hn hd hin hout K hK
        obtain ⟨HM, hV⟩ := hF
        have D32 : L 32 = true := hd ⟨32, Go.Ground.guard⟩ (by simp) rfl
        have E32 : v 32 = .bool true := hV 32 D32
        rw [if_neg (by rw [Inv.wanted_of (b := true) rfl rfl rfl ((hin 32 _ _ rfl rfl).trans E32)]; decide)]
        exact hK.out _ W ⟨HM, flow_vals hV rfl⟩
      · intro L v W aAct hF hn hd hin hout K hK
        obtain ⟨HM, hV⟩ := hF
        have D32 : L 32 = true := hd ⟨32, Go.Ground.guard⟩ (by simp) rfl
        have E32 : v 32 = .bool true := hV 32 D32
        rw [if_neg (by rw [Inv.wanted_of (b := true) rfl rfl rfl ((hin 32 _ _ rfl rfl).trans E32)]; decide)]
        exact hK.out _ W ⟨HM, flow_vals hV rfl⟩
      · intro L v W aAct hF hn hd hin hout K hK
        obtain ⟨HM, hV⟩ := hF
        have D32 : L 32 = true := hd ⟨32, Go.Ground.data⟩ (by simp) rfl
        rw [if_pos (by rfl)]
        have E32 : v 32 = .bool true := hV 32 D32
        exact Inv.wp_pick rfl ((hin 32 _ _ rfl rfl).trans E32) ((if_pos rfl).trans rfl) (hK.out _ W ⟨HM, flow_vals hV rfl⟩)
      · intro L v W aAct hF hn hd hin hout K hK
        obtain ⟨HM, hV⟩ := hF
        have D42 : L 42 = true := hd ⟨42, Go.Ground.data⟩ (by simp) rfl
        rw [if_pos (by rfl)]
        have E42 : v 42 = .bool true := hV 42 D42
        exact Inv.wp_move (.inl rfl) ((hin 42 _ _ rfl rfl).trans E42) (hK.out _ W ⟨HM, flow_vals hV rfl⟩)
      · intro L v W aAct hF hn hd hin hout K hK
        obtain ⟨HM, hV⟩ := hF
        have D43 : L 43 = true := hd ⟨43, Go.Ground.guard⟩ (by simp) rfl
        have E43 : v 43 = .bool true := hV 43 D43
        rw [if_neg (by rw [Inv.wanted_of (b := true) rfl rfl rfl ((hin 43 _ _ rfl rfl).trans E43)]; decide)]
        exact hK.out _ W ⟨HM, flow_vals hV rfl⟩
      · intro L v W aAct hF hn hd hin hout K hK
        obtain ⟨HM, hV⟩ := hF
        have D43 : L 43 = true := hd ⟨43, Go.Ground.guard⟩ (by simp) rfl
        have E43 : v 43 = .bool true := hV 43 D43
        rw [if_neg (by rw [Inv.wanted_of (b := true) rfl rfl rfl ((hin 43 _ _ rfl rfl).trans E43)]; decide)]
        exact hK.out _ W ⟨HM, flow_vals hV rfl⟩
      · intro L v W aAct hF hn hd hin hout K hK
        obtain ⟨HM, hV⟩ := hF
        have D43 : L 43 = true := hd ⟨43, Go.Ground.guard⟩ (by simp) rfl
        have E43 : v 43 = .bool true := hV 43 D43
        rw [if_neg (by rw [Inv.wanted_of (b := true) rfl rfl rfl ((hin 43 _ _ rfl rfl).trans E43)]; decide)]
        exact hK.out _ W ⟨HM, flow_vals hV rfl⟩
      · intro L v W aAct hF hn hd hin hout K hK
        obtain ⟨HM, hV⟩ := hF
        have D43 : L 43 = true := hd ⟨43, Go.Ground.guard⟩ (by simp) rfl
        have E43 : v 43 = .bool true := hV 43 D43
        rw [if_neg (by rw [Inv.wanted_of (b := true) rfl rfl rfl ((hin 43 _ _ rfl rfl).trans E43)]; decide)]
        exact hK.out _ W ⟨HM, flow_vals hV rfl⟩
      · intro L v W aAct hF hn hd hin hout K hK
        obtain ⟨HM, hV⟩ := hF
        have D43 : L 43 = true := hd ⟨43, Go.Ground.guard⟩ (by simp) rfl
        have E43 : v 43 = .bool true := hV 43 D43
        rw [if_neg (by rw [Inv.wanted_of (b := true) rfl rfl rfl ((hin 43 _ _ rfl rfl).trans E43)]; decide)]
        exact hK.out _ W ⟨HM, flow_vals hV rfl⟩
      · intro L v W aAct hF hn hd hin hout K hK
        obtain ⟨HM, hV⟩ := hF
        have D43 : L 43 = true := hd ⟨43, Go.Ground.guard⟩ (by simp) rfl
        have E43 : v 43 = .bool true := hV 43 D43
        rw [if_neg (by rw [Inv.wanted_of (b := true) rfl rfl rfl ((hin 43 _ _ rfl rfl).trans E43)]; decide)]
        exact hK.out _ W ⟨HM, flow_vals hV rfl⟩
      · intro L v W aAct hF hn hd hin hout K hK
        obtain ⟨HM, hV⟩ := hF
        have D43 : L 43 = true := hd ⟨43, Go.Ground.guard⟩ (by simp) rfl
        have E43 : v 43 = .bool true := hV 43 D43
        rw [if_neg (by rw [Inv.wanted_of (b := true) rfl rfl rfl ((hin 43 _ _ rfl rfl).trans E43)]; decide)]
        exact hK.out _ W ⟨HM, flow_vals hV rfl⟩
      · intro L v W aAct hF hn hd hin hout K hK
        obtain ⟨HM, hV⟩ := hF
        have D43 : L 43 = true := hd ⟨43, Go.Ground.guard⟩ (by simp) rfl
        have E43 : v 43 = .bool true := hV 43 D43
        rw [if_neg (by rw [Inv.wanted_of (b := true) rfl rfl rfl ((hin 43 _ _ rfl rfl).trans E43)]; decide)]
        exact hK.out _ W ⟨HM, flow_vals hV rfl⟩
      · intro L v W aAct hF hn hd hin hout K hK
        obtain ⟨HM, hV⟩ := hF
        have D43 : L 43 = true := hd ⟨43, Go.Ground.chain⟩ (by simp) rfl
        have E43 : v 43 = .bool true := hV 43 D43
        rw [if_neg (by rw [Inv.wanted_of (b := true) rfl rfl rfl ((hin 43 _ _ rfl rfl).trans E43)]; decide)]
        exact hK.out _ W ⟨HM, flow_vals hV rfl⟩
      · intro L v W aAct hF hn hd hin hout K hK
        obtain ⟨HM, hV⟩ := hF
        have D43 : L 43 = true := hd ⟨43, Go.Ground.guard⟩ (by simp) rfl
        have E43 : v 43 = .bool true := hV 43 D43
        rw [if_neg (by rw [Inv.wanted_of (b := true) rfl rfl rfl ((hin 43 _ _ rfl rfl).trans E43)]; decide)]
        exact hK.out _ W ⟨HM, flow_vals hV rfl⟩
      · intro L v W aAct hF hn hd hin hout K hK
        obtain ⟨HM, hV⟩ := hF
        have D43 : L 43 = true := hd ⟨43, Go.Ground.data⟩ (by simp) rfl
        rw [if_pos (by rfl)]
        have E43 : v 43 = .bool true := hV 43 D43
        exact Inv.wp_pick rfl ((hin 43 _ _ rfl rfl).trans E43) ((if_pos rfl).trans rfl) (hK.out _ W ⟨HM, flow_vals hV rfl⟩)
      · intro L v W aAct hF hn hd hin hout K hK
        obtain ⟨HM, hV⟩ := hF
        have D54 : L 54 = true := hd ⟨54, Go.Ground.data⟩ (by simp) rfl
        rw [if_pos (by rfl)]
        have E54 : v 54 = .bool true := hV 54 D54
        exact Inv.wp_move (.inl rfl) ((hin 54 _ _ rfl rfl).trans E54) (hK.out _ W ⟨HM, flow_vals hV rfl⟩)
      · intro L v W aAct hF hn hd hin hout K hK
        obtain ⟨HM, hV⟩ := hF
        have D55 : L 55 = true := hd ⟨55, Go.Ground.guard⟩ (by simp) rfl
        have E55 : v 55 = .bool true := hV 55 D55
        rw [if_neg (by rw [Inv.wanted_of (b := true) rfl rfl rfl ((hin 55 _ _ rfl rfl).trans E55)]; decide)]
        exact hK.out _ W ⟨HM, flow_vals hV rfl⟩
      · intro L v W aAct hF hn hd hin hout K hK
        obtain ⟨HM, hV⟩ := hF
        have D55 : L 55 = true := hd ⟨55, Go.Ground.guard⟩ (by simp) rfl
        have E55 : v 55 = .bool true := hV 55 D55
        rw [if_neg (by rw [Inv.wanted_of (b := true) rfl rfl rfl ((hin 55 _ _ rfl rfl).trans E55)]; decide)]
        exact hK.out _ W ⟨HM, flow_vals hV rfl⟩
      · intro L v W aAct hF hn hd hin hout K hK
        obtain ⟨HM, hV⟩ := hF
        have D55 : L 55 = true := hd ⟨55, Go.Ground.guard⟩ (by simp) rfl
        have E55 : v 55 = .bool true := hV 55 D55
        rw [if_neg (by rw [Inv.wanted_of (b := true) rfl rfl rfl ((hin 55 _ _ rfl rfl).trans E55)]; decide)]
        exact hK.out _ W ⟨HM, flow_vals hV rfl⟩
      · intro L v W aAct hF hn hd hin hout K hK
        obtain ⟨HM, hV⟩ := hF
        have D55 : L 55 = true := hd ⟨55, Go.Ground.guard⟩ (by simp) rfl
        have E55 : v 55 = .bool true := hV 55 D55
        rw [if_neg (by rw [Inv.wanted_of (b := true) rfl rfl rfl ((hin 55 _ _ rfl rfl).trans E55)]; decide)]
        exact hK.out _ W ⟨HM, flow_vals hV rfl⟩
      · intro L v W aAct hF hn hd hin hout K hK
        obtain ⟨HM, hV⟩ := hF
        have D55 : L 55 = true := hd ⟨55, Go.Ground.guard⟩ (by simp) rfl
        have E55 : v 55 = .bool true := hV 55 D55
        rw [if_neg (by rw [Inv.wanted_of (b := true) rfl rfl rfl ((hin 55 _ _ rfl rfl).trans E55)]; decide)]
        exact hK.out _ W ⟨HM, flow_vals hV rfl⟩
      · intro L v W aAct hF hn hd hin hout K hK
        obtain ⟨HM, hV⟩ := hF
        have D55 : L 55 = true := hd ⟨55, Go.Ground.guard⟩ (by simp) rfl
        have E55 : v 55 = .bool true := hV 55 D55
        rw [if_neg (by rw [Inv.wanted_of (b := true) rfl rfl rfl ((hin 55 _ _ rfl rfl).trans E55)]; decide)]
        exact hK.out _ W ⟨HM, flow_vals hV rfl⟩
      · intro L v W aAct hF hn hd hin hout K hK
        obtain ⟨HM, hV⟩ := hF
        have D55 : L 55 = true := hd ⟨55, Go.Ground.guard⟩ (by simp) rfl
        have E55 : v 55 = .bool true := hV 55 D55
        rw [if_neg (by rw [Inv.wanted_of (b := true) rfl rfl rfl ((hin 55 _ _ rfl rfl).trans E55)]; decide)]
        exact hK.out _ W ⟨HM, flow_vals hV rfl⟩
      · intro L v W aAct hF hn hd hin hout K hK
        obtain ⟨HM, hV⟩ := hF
        have D55 : L 55 = true := hd ⟨55, Go.Ground.guard⟩ (by simp) rfl
        have E55 : v 55 = .bool true := hV 55 D55
        rw [if_neg (by rw [Inv.wanted_of (b := true) rfl rfl rfl ((hin 55 _ _ rfl rfl).trans E55)]; decide)]
        exact hK.out _ W ⟨HM, flow_vals hV rfl⟩
      · intro L v W aAct hF hn hd hin hout K hK
        obtain ⟨HM, hV⟩ := hF
        have D55 : L 55 = true := hd ⟨55, Go.Ground.guard⟩ (by simp) rfl
        have E55 : v 55 = .bool true := hV 55 D55
        rw [if_neg (by rw [Inv.wanted_of (b := true) rfl rfl rfl ((hin 55 _ _ rfl rfl).trans E55)]; decide)]
        exact hK.out _ W ⟨HM, flow_vals hV rfl⟩
      · intro L v W aAct hF hn hd hin hout K hK
        obtain ⟨HM, hV⟩ := hF
        have D55 : L 55 = true := hd ⟨55, Go.Ground.guard⟩ (by simp) rfl
        have E55 : v 55 = .bool true := hV 55 D55
        rw [if_neg (by rw [Inv.wanted_of (b := true) rfl rfl rfl ((hin 55 _ _ rfl rfl).trans E55)]; decide)]
        exact hK.out _ W ⟨HM, flow_vals hV rfl⟩
      · intro L v W aAct hF hn hd hin hout K hK
        obtain ⟨HM, hV⟩ := hF
        have D55 : L 55 = true := hd ⟨55, Go.Ground.guard⟩ (by simp) rfl
        have E55 : v 55 = .bool true := hV 55 D55
        rw [if_neg (by rw [Inv.wanted_of (b := true) rfl rfl rfl ((hin 55 _ _ rfl rfl).trans E55)]; decide)]
        exact hK.out _ W ⟨HM, flow_vals hV rfl⟩
      · intro L v W aAct hF hn hd hin hout K hK
        obtain ⟨HM, hV⟩ := hF
        have D55 : L 55 = true := hd ⟨55, Go.Ground.data⟩ (by simp) rfl
        rw [if_pos (by rfl)]
        have E55 : v 55 = .bool true := hV 55 D55
        exact Inv.wp_pick rfl ((hin 55 _ _ rfl rfl).trans E55) ((if_pos rfl).trans rfl) (hK.out _ W ⟨HM, flow_vals hV rfl⟩)
      clear HM
      intro L v W2 hL hF
      obtain ⟨HM, hV⟩ := hF
      have E67 : v 67 = .bool true := hV 67 (hL 67 rfl)
      simp only [Inv.putAll, List.append, Act.put, List.setIfInBounds_toArray, List.set_cons_zero, List.set_cons_succ, E67]
      clear hV hL E67
      obtain ⟨W, hWW⟩ : ∃ W, W = W2 := ⟨_, rfl⟩; subst hWW
      go_wp2_with fail
      simp [bodyPost, results, Try.results16, go_sem]
      exact ⟨_, rfl, by rw [HR.out]; exact rfl, HM.below⟩
    · skip
      cases b2 : (s0 == s1)
      · have HP2 : Aside (∀ w, Calls Try.prog 34 #[.agg #[.float .f32 a0.1, .float .f32 a0.2.1, .float .f32 a0.2.2], .agg #[.float .f32 a1.1, .float .f32 a1.2.1, .float .f32 a1.2.2]] w (Gives (isB true) w)) := by
          have HP : ∀ w, Calls Try.prog 34 #[.agg #[.float .f32 a0.1, .float .f32 a0.2.1, .float .f32 a0.2.2], .agg #[.float .f32 a1.1, .float .f32 a1.2.1, .float .f32 a1.2.2]] w (Gives (isB (sameT a0 a1)) w) := fun w => l01SamePoint_any a0.1 a0.2.1 a0.2.2 a1.1 a1.2.1 a1.2.2 w
          rw [b1] at HP
          exact HP
        have n0 : (k0 != k1) = false := by simp only [bne, b0, Bool.not_true, Bool.not_false]
        have n2 : (s0 != s1) = true := by simp only [bne, b2, Bool.not_true, Bool.not_false]
        have HR : Aside (sameC k0 k1 a0 a1 s0 s1 f0 f1 h0 h1 z0 z1 = false) := by show sameC k0 k1 a0 a1 s0 s1 f0 f1 h0 h1 z0 z1 = false; unfold sameC; simp only [b0, b1, b2, Bool.true_and, Bool.false_and, Bool.and_false, Bool.and_self]
        go_enter Try.func16, Try.ntmps16
        go_wp2_with fail
        refine Inv.wp_region_flow (F := fun L v W => Mem w W [(p, [.int .i8 k0, .float .f32 a0.1, .float .f32 a0.2.1, .float .f32 a0.2.2, .int .i64 s0, .int .i64 f0, .float .f32 h0, .slice x0 z0.length y0]), (q, [.int .i8 k1, .float .f32 a1.1, .float .f32 a1.2.1, .float .f32 a1.2.2, .int .i64 s1, .int .i64 f1, .float .f32 h1, .slice x1 z1.length y1])] [] ∧ ∀ j, L j = true → v j = ([.pointer (some ⟨p, 0, none⟩), .pointer (some ⟨p, 0, none⟩), .pointer (some ⟨p, 0, none⟩), .int .i8 k0, .pointer (some ⟨q, 0, none⟩), .pointer (some ⟨q, 0, none⟩), .pointer (some ⟨q, 0, none⟩), .int .i8 k1, .bool false, .bool false, .pointer (some ⟨p, 0, none⟩), .pointer (some ⟨p, 0, none⟩), .pointer (some ⟨p, 1, none⟩), .agg #[.float .f32 a0.1, .float .f32 a0.2.1, .float .f32 a0.2.2], .pointer (some ⟨q, 0, none⟩), .pointer (some ⟨q, 0, none⟩), .pointer (some ⟨q, 1, none⟩), .agg #[.float .f32 a1.1, .float .f32 a1.2.1, .float .f32 a1.2.2], .bool true, .bool false, .bool false, .bool false, .pointer (some ⟨p, 0, none⟩), .pointer (some ⟨p, 0, none⟩), .pointer (some ⟨p, 4, none⟩), .int .i64 s0, .pointer (some ⟨q, 0, none⟩), .pointer (some ⟨q, 0, none⟩), .pointer (some ⟨q, 4, none⟩), .int .i64 s1, .bool true, .bool true, .bool true, undef, undef, undef, undef, undef, undef, undef, undef, undef, .bool true, .bool true, undef, undef, undef, undef, undef, undef, undef, undef, undef, undef, .bool true, .bool true, undef, undef, undef, undef, undef, undef, undef, undef, undef, undef, undef, .bool true] : List Value).getD j undef) (by kernel_rfl) (by kernel_rfl) (by kernel_rfl) (fun v => ⟨HM.drew, fun j h => absurd h Bool.false_ne_true⟩) ⟨?_, ?_, ?_, ?_, ?_, ?_, ?_, ?_, ?_, ?_, ?_, ?_, ?_, ?_, ?_, ?_, ?_, ?_, ?_, ?_, ?_, ?_, ?_, ?_, ?_, ?_, ?_, ?_, ?_, ?_, ?_, ?_, ?_, ?_, ?_, ?_, ?_, ?_, ?_, ?_, ?_, ?_, ?_, ?_, ?_, ?_, ?_, ?_, ?_, ?_, ?_, ?_, ?_, ?_, ?_, ?_, ?_, ?_, ?_, ?_, ?_, ?_, ?_, ?_, ?_, ?_, ?_, ?_, trivial⟩ ?_
        · intro L v W aAct hF hn hd hin hout K hK
          obtain ⟨HM, hV⟩ := hF
          rw [if_pos (by rfl)]
          exact Inv.wp_move (.inl rfl) ((hout 0 rfl).trans rfl) (hK.out _ W ⟨HM, flow_vals hV rfl⟩)
        · intro L v W aAct hF hn hd hin hout K hK
          obtain ⟨HM, hV⟩ := hF
          have D0 : L 0 = true := hd ⟨0, Go.Ground.data⟩ (by simp) rfl
          rw [if_pos (by rfl)]
          have E0 : v 0 = .pointer (some ⟨p, 0, none⟩) := hV 0 D0
          exact Inv.wp_nilCheck rfl ((hin 0 _ _ rfl rfl).trans E0) (hK.out _ W ⟨HM, flow_vals hV rfl⟩)
        · intro L v W aAct hF hn hd hin hout K hK
          obtain ⟨HM, hV⟩ := hF
          have D1 : L 1 = true := hd ⟨1, Go.Ground.data⟩ (by simp) rfl
          rw [if_pos (by rfl)]
          have E1 : v 1 = .pointer (some ⟨p, 0, none⟩) := hV 1 D1
          exact Inv.wp_fieldAddr (u := .pointer (some ⟨p, 0, none⟩)) rfl ((hin 1 _ _ rfl rfl).trans E1) (fun _ => by kernel_rfl) (hK.out _ W ⟨HM, flow_vals hV rfl⟩)
        · intro L v W aAct hF hn hd hin hout K hK
          obtain ⟨HM, hV⟩ := hF
          have D2 : L 2 = true := hd ⟨2, Go.Ground.data⟩ (by simp) rfl
          rw [if_pos (by rfl)]
          have E2 : v 2 = .pointer (some ⟨p, 0, none⟩) := hV 2 D2
          exact Mem.wp_load_one HM rfl ((hin 2 _ _ rfl rfl).trans E2) (by kernel_rfl) (.inr (.head _)) rfl (hK.out _ W ⟨HM, flow_vals hV rfl⟩)
        · intro L v W aAct hF hn hd hin hout K hK
          obtain ⟨HM, hV⟩ := hF
          rw [if_pos (by rfl)]
          exact Inv.wp_move (.inl rfl) ((hout 1 rfl).trans rfl) (hK.out _ W ⟨HM, flow_vals hV rfl⟩)
        · intro L v W aAct hF hn hd hin hout K hK
          obtain ⟨HM, hV⟩ := hF
          have D4 : L 4 = true := hd ⟨4, Go.Ground.data⟩ (by simp) rfl
          rw [if_pos (by rfl)]
          have E4 : v 4 = .pointer (some ⟨q, 0, none⟩) := hV 4 D4
          exact Inv.wp_nilCheck rfl ((hin 4 _ _ rfl rfl).trans E4) (hK.out _ W ⟨HM, flow_vals hV rfl⟩)
        · intro L v W aAct hF hn hd hin hout K hK
          obtain ⟨HM, hV⟩ := hF
          have D5 : L 5 = true := hd ⟨5, Go.Ground.data⟩ (by simp) rfl
          rw [if_pos (by rfl)]
          have E5 : v 5 = .pointer (some ⟨q, 0, none⟩) := hV 5 D5
          exact Inv.wp_fieldAddr (u := .pointer (some ⟨q, 0, none⟩)) rfl ((hin 5 _ _ rfl rfl).trans E5) (fun _ => by kernel_rfl) (hK.out _ W ⟨HM, flow_vals hV rfl⟩)
        · intro L v W aAct hF hn hd hin hout K hK
          obtain ⟨HM, hV⟩ := hF
          have D6 : L 6 = true := hd ⟨6, Go.Ground.data⟩ (by simp) rfl
          rw [if_pos (by rfl)]
          have E6 : v 6 = .pointer (some ⟨q, 0, none⟩) := hV 6 D6
          exact Mem.wp_load_one HM rfl ((hin 6 _ _ rfl rfl).trans E6) (by kernel_rfl) (.inr (.tail _ (.head _))) rfl (hK.out _ W ⟨HM, flow_vals hV rfl⟩)
        · intro L v W aAct hF hn hd hin hout K hK
          obtain ⟨HM, hV⟩ := hF
          have D3 : L 3 = true := hd ⟨3, Go.Ground.data⟩ (by simp) rfl
          have D7 : L 7 = true := hd ⟨7, Go.Ground.data⟩ (by simp) rfl
          rw [if_pos (by rfl)]
          have E3 : v 3 = .int .i8 k0 := hV 3 D3
          have E7 : v 7 = .int .i8 k1 := hV 7 D7
          exact Inv.wp_binop (u := .bool false) rfl ((hin 3 _ _ rfl rfl).trans E3) ((hin 7 _ _ rfl rfl).trans E7) (fun w => (run_neq_intE _ _ _ _ w).trans (by rw [n0])) (hK.out _ W ⟨HM, flow_vals hV rfl⟩)
        · intro L v W aAct hF hn hd hin hout K hK
          obtain ⟨HM, hV⟩ := hF
          have D8 : L 8 = true := hd ⟨8, Go.Ground.data⟩ (by simp) rfl
          rw [if_pos (by rfl)]
          have E8 : v 8 = .bool false := hV 8 D8
          exact Inv.wp_move (.inl rfl) ((hin 8 _ _ rfl rfl).trans E8) (hK.out _ W ⟨HM, flow_vals hV rfl⟩)
        · intro L v W aAct hF hn hd hin hout K hK
          obtain ⟨HM, hV⟩ := hF
          have D9 : L 9 = true := hd ⟨9, Go.Ground.guard⟩ (by simp) rfl
          have E9 : v 9 = .bool false := hV 9 D9
          rw [if_pos (by rw [Inv.wanted_of (b := false) rfl rfl rfl ((hin 9 _ _ rfl rfl).trans E9)]; decide)]
          exact Inv.wp_move (.inl rfl) ((hout 0 rfl).trans rfl) (hK.out _ W ⟨HM, flow_vals hV rfl⟩)
        · intro L v W aAct hF hn hd hin hout K hK
          obtain ⟨HM, hV⟩ := hF
          have D10 : L 10 = true := hd ⟨10, Go.Ground.data⟩ (by simp) rfl
          have D9 : L 9 = true := hd ⟨9, Go.Ground.guard⟩ (by simp) rfl
          have E9 : v 9 = .bool false := hV 9 D9
          rw [if_pos (by rw [Inv.wanted_of (b := false) rfl rfl rfl ((hin 9 _ _ rfl rfl).trans E9)]; decide)]
          have E10 : v 10 = .pointer (some ⟨p, 0, none⟩) := hV 10 D10
          exact Inv.wp_nilCheck rfl ((hin 10 _ _ rfl rfl).trans E10) (hK.out _ W ⟨HM, flow_vals hV rfl⟩)
        · intro L v W aAct hF hn hd hin hout K hK
          obtain ⟨HM, hV⟩ := hF
          have D11 : L 11 = true := hd ⟨11, Go.Ground.data⟩ (by simp) rfl
          have D9 : L 9 = true := hd ⟨9, Go.Ground.guard⟩ (by simp) rfl
          have E9 : v 9 = .bool false := hV 9 D9
          rw [if_pos (by rw [Inv.wanted_of (b := false) rfl rfl rfl ((hin 9 _ _ rfl rfl).trans E9)]; decide)]
          have E11 : v 11 = .pointer (some ⟨p, 0, none⟩) := hV 11 D11
          exact Inv.wp_fieldAddr (u := .pointer (some ⟨p, 1, none⟩)) rfl ((hin 11 _ _ rfl rfl).trans E11) (fun _ => by kernel_rfl) (hK.out _ W ⟨HM, flow_vals hV rfl⟩)
        · intro L v W aAct hF hn hd hin hout K hK
          obtain ⟨HM, hV⟩ := hF
          have D12 : L 12 = true := hd ⟨12, Go.Ground.data⟩ (by simp) rfl
          have D9 : L 9 = true := hd ⟨9, Go.Ground.guard⟩ (by simp) rfl
          have E9 : v 9 = .bool false := hV 9 D9
          rw [if_pos (by rw [Inv.wanted_of (b := false) rfl rfl rfl ((hin 9 _ _ rfl rfl).trans E9)]; decide)]
          have E12 : v 12 = .pointer (some ⟨p, 1, none⟩) := hV 12 D12
          exact Mem.wp_load_row HM 3 rfl ((hin 12 _ _ rfl rfl).trans E12) (by kernel_rfl) (.inr (.head _)) rfl rfl (hK.out _ W ⟨HM, flow_vals hV rfl⟩)
        · intro L v W aAct hF hn hd hin hout K hK
          obtain ⟨HM, hV⟩ := hF
          have D9 : L 9 = true := hd ⟨9, Go.Ground.guard⟩ (by simp) rfl
          have E9 : v 9 = .bool false := hV 9 D9
          rw [if_pos (by rw [Inv.wanted_of (b := false) rfl rfl rfl ((hin 9 _ _ rfl rfl).trans E9)]; decide)]
          exact Inv.wp_move (.inl rfl) ((hout 1 rfl).trans rfl) (hK.out _ W ⟨HM, flow_vals hV rfl⟩)
        · intro L v W aAct hF hn hd hin hout K hK
          obtain ⟨HM, hV⟩ := hF
          have D14 : L 14 = true := hd ⟨14, Go.Ground.data⟩ (by simp) rfl
          have D9 : L 9 = true := hd ⟨9, Go.Ground.guard⟩ (by simp) rfl
          have E9 : v 9 = .bool false := hV 9 D9
          rw [if_pos (by rw [Inv.wanted_of (b := false) rfl rfl rfl ((hin 9 _ _ rfl rfl).trans E9)]; decide)]
          have E14 : v 14 = .pointer (some ⟨q, 0, none⟩) := hV 14 D14
          exact Inv.wp_nilCheck rfl ((hin 14 _ _ rfl rfl).trans E14) (hK.out _ W ⟨HM, flow_vals hV rfl⟩)
        · intro L v W aAct hF hn hd hin hout K hK
          obtain ⟨HM, hV⟩ := hF
          have D15 : L 15 = true := hd ⟨15, Go.Ground.data⟩ (by simp) rfl
          have D9 : L 9 = true := hd ⟨9, Go.Ground.guard⟩ (by simp) rfl
          have E9 : v 9 = .bool false := hV 9 D9
          rw [if_pos (by rw [Inv.wanted_of (b := false) rfl rfl rfl ((hin 9 _ _ rfl rfl).trans E9)]; decide)]
          have E15 : v 15 = .pointer (some ⟨q, 0, none⟩) := hV 15 D15
          exact Inv.wp_fieldAddr (u := .pointer (some ⟨q, 1, none⟩)) rfl ((hin 15 _ _ rfl rfl).trans E15) (fun _ => by kernel_rfl) (hK.out _ W ⟨HM, flow_vals hV rfl⟩)
        · intro L v W aAct hF hn hd hin hout K hK
          obtain ⟨HM, hV⟩ := hF
          have D16 : L 16 = true := hd ⟨16, Go.Ground.data⟩ (by simp) rfl
          have D9 : L 9 = true := hd ⟨9, Go.Ground.guard⟩ (by simp) rfl
          have E9 : v 9 = .bool false := hV 9 D9
          rw [if_pos (by rw [Inv.wanted_of (b := false) rfl rfl rfl ((hin 9 _ _ rfl rfl).trans E9)]; decide)]
          have E16 : v 16 = .pointer (some ⟨q, 1, none⟩) := hV 16 D16
          exact Mem.wp_load_row HM 3 rfl ((hin 16 _ _ rfl rfl).trans E16) (by kernel_rfl) (.inr (.tail _ (.head _))) rfl rfl (hK.out _ W ⟨HM, flow_vals hV rfl⟩)
        · intro L v W aAct hF hn hd hin hout K hK
          obtain ⟨HM, hV⟩ := hF
          have D13 : L 13 = true := hd ⟨13, Go.Ground.data⟩ (by simp) rfl
          have D17 : L 17 = true := hd ⟨17, Go.Ground.data⟩ (by simp) rfl
          have D9 : L 9 = true := hd ⟨9, Go.Ground.chain⟩ (by simp) rfl
          have E9 : v 9 = .bool false := hV 9 D9
          rw [if_pos (by rw [Inv.wanted_of (b := false) rfl rfl rfl ((hin 9 _ _ rfl rfl).trans E9)]; decide)]
          have E13 : v 13 = .agg #[.float .f32 a0.1, .float .f32 a0.2.1, .float .f32 a0.2.2] := hV 13 D13
          have E17 : v 17 = .agg #[.float .f32 a1.1, .float .f32 a1.2.1, .float .f32 a1.2.2] := hV 17 D17
          refine Inv.wp_call rfl rfl rfl #[.agg #[.float .f32 a0.1, .float .f32 a0.2.1, .float .f32 a0.2.2], .agg #[.float .f32 a1.1, .float .f32 a1.2.1, .float .f32 a1.2.2]] (by simp only [List.map_toArray, List.map_cons, List.map_nil, ((hin 13 _ _ rfl rfl).trans E13), ((hin 17 _ _ rfl rfl).trans E17)]) (by kernel_rfl) ((HP2.out _).mono ?_)
          rintro e W' ⟨_, rfl, rfl, hb⟩
          exact ⟨_, rfl, hK.out _ W' ⟨(HM.call hb), flow_vals hV rfl⟩⟩
        · intro L v W aAct hF hn hd hin hout K hK
          obtain ⟨HM, hV⟩ := hF
          have D18 : L 18 = true := hd ⟨18, Go.Ground.data⟩ (by simp) rfl
          have D9 : L 9 = true := hd ⟨9, Go.Ground.guard⟩ (by simp) rfl
          have E9 : v 9 = .bool false := hV 9 D9
          rw [if_pos (by rw [Inv.wanted_of (b := false) rfl rfl rfl ((hin 9 _ _ rfl rfl).trans E9)]; decide)]
          have E18 : v 18 = .bool true := hV 18 D18
          exact Inv.wp_unop (u := .bool false) rfl ((hin 18 _ _ rfl rfl).trans E18) (fun _ => rfl) (hK.out _ W ⟨HM, flow_vals hV rfl⟩)
        · intro L v W aAct hF hn hd hin hout K hK
          obtain ⟨HM, hV⟩ := hF
          have D9 : L 9 = true := hd ⟨9, Go.Ground.data⟩ (by simp) rfl
          have D19 : L 19 = true := hd ⟨19, Go.Ground.data⟩ (by simp) rfl
          rw [if_pos (by rfl)]
          have E9 : v 9 = .bool false := hV 9 D9
          have E19 : v 19 = .bool false := hV 19 D19
          exact Inv.wp_pick rfl ((hin 9 _ _ rfl rfl).trans E9) ((if_neg Bool.false_ne_true).trans ((hin 19 _ _ rfl rfl).trans E19)) (hK.out _ W ⟨HM, flow_vals hV rfl⟩)
        · intro L v W aAct hF hn hd hin hout K hK
          obtain ⟨HM, hV⟩ := hF
          have D20 : L 20 = true := hd ⟨20, Go.Ground.data⟩ (by simp) rfl
          rw [if_pos (by rfl)]
          have E20 : v 20 = .bool false := hV 20 D20
          exact Inv.wp_move (.inl rfl) ((hin 20 _ _ rfl rfl).trans E20) (hK.out _ W ⟨HM, flow_vals hV rfl⟩)
        · intro L v W aAct hF hn hd hin hout K hK
          obtain ⟨HM, hV⟩ := hF
          have D21 : L 21 = true := hd ⟨21, Go.Ground.guard⟩ (by simp) rfl
          have E21 : v 21 = .bool false := hV 21 D21
          rw [if_pos (by rw [Inv.wanted_of (b := false) rfl rfl rfl ((hin 21 _ _ rfl rfl).trans E21)]; decide)]
          exact Inv.wp_move (.inl rfl) ((hout 0 rfl).trans rfl) (hK.out _ W ⟨HM, flow_vals hV rfl⟩)
        · intro L v W aAct hF hn hd hin hout K hK
          obtain ⟨HM, hV⟩ := hF
          have D22 : L 22 = true := hd ⟨22, Go.Ground.data⟩ (by simp) rfl
          have D21 : L 21 = true := hd ⟨21, Go.Ground.guard⟩ (by simp) rfl
          have E21 : v 21 = .bool false := hV 21 D21
          rw [if_pos (by rw [Inv.wanted_of (b := false) rfl rfl rfl ((hin 21 _ _ rfl rfl).trans E21)]; decide)]
          have E22 : v 22 = .pointer (some ⟨p, 0, none⟩) := hV 22 D22
          exact Inv.wp_nilCheck rfl ((hin 22 _ _ rfl rfl).trans E22) (hK.out _ W ⟨HM, flow_vals hV rfl⟩)
        · intro L v W aAct hF hn hd hin hout K hK
          obtain ⟨HM, hV⟩ := hF
          have D23 : L 23 = true := hd ⟨23, Go.Ground.data⟩ (by simp) rfl
          have D21 : L 21 = true := hd ⟨21, Go.Ground.guard⟩ (by simp) rfl
          have E21 : v 21 = .bool false := hV 21 D21
          rw [if_pos (by rw [Inv.wanted_of (b := false) rfl rfl rfl ((hin 21 _ _ rfl rfl).trans E21)]; decide)]
          have E23 : v 23 = .pointer (some ⟨p, 0, none⟩) := hV 23 D23
          exact Inv.wp_fieldAddr (u := .pointer (some ⟨p, 4, none⟩)) rfl ((hin 23 _ _ rfl rfl).trans E23) (fun _ => by kernel_rfl) (hK.out _ W ⟨HM, flow_vals hV rfl⟩)
        · intro L v W aAct hF hn hd hin hout K hK
          obtain ⟨HM, hV⟩ := hF
          have D24 : L 24 = true := hd ⟨24, Go.Ground.data⟩ (by simp) rfl
          have D21 : L 21 = true := hd ⟨21, Go.Ground.guard⟩ (by simp) rfl
          have E21 : v 21 = .bool false := hV 21 D21
          rw [if_pos (by rw [Inv.wanted_of (b := false) rfl rfl rfl ((hin 21 _ _ rfl rfl).trans E21)]; decide)]
          have E24 : v 24 = .pointer (some ⟨p, 4, none⟩) := hV 24 D24
          exact Mem.wp_load_one HM rfl ((hin 24 _ _ rfl rfl).trans E24) (by kernel_rfl) (.inr (.head _)) rfl (hK.out _ W ⟨HM, flow_vals hV rfl⟩)
        · intro L v W aAct hF hn hd hin hout K hK
          obtain ⟨HM, hV⟩ := hF
          have D21 : L 21 = true := hd ⟨21, Go.Ground.guard⟩ (by simp) rfl
          have E21 : v 21 = .bool false := hV 21 D21
          rw [if_pos (by rw [Inv.wanted_of (b := false) rfl rfl rfl ((hin 21 _ _ rfl rfl).trans E21)]; decide)]
          exact Inv.wp_move (.inl rfl) ((hout 1 rfl).trans rfl) (hK.out _ W ⟨HM, flow_vals hV rfl⟩)
        · intro L v W aAct hF hn hd hin hout K hK
          obtain ⟨HM, hV⟩ := hF
          have D26 : L 26 = true := hd ⟨26, Go.Ground.data⟩ (by simp) rfl
          have D21 : L 21 = true := hd ⟨21, Go.Ground.guard⟩ (by simp) rfl
          have E21 : v 21 = .bool false := hV 21 D21
          rw [if_pos (by rw [Inv.wanted_of (b := false) rfl rfl rfl ((hin 21 _ _ rfl rfl).trans E21)]; decide)]
          have E26 : v 26 = .pointer (some ⟨q, 0, none⟩) := hV 26 D26
          exact Inv.wp_nilCheck rfl ((hin 26 _ _ rfl rfl).trans E26) (hK.out _ W ⟨HM, flow_vals hV rfl⟩)
        · intro L v W aAct hF hn hd hin hout K hK
          obtain ⟨HM, hV⟩ := hF
          have D27 : L 27 = true := hd ⟨27, Go.Ground.data⟩ (by simp) rfl
          have D21 : L 21 = true := hd ⟨21, Go.Ground.guard⟩ (by simp) rfl
          have E21 : v 21 = .bool false := hV 21 D21
          rw [if_pos (by rw [Inv.wanted_of (b := false) rfl rfl rfl ((hin 21 _ _ rfl rfl).trans E21)]; decide)]
          have E27 : v 27 = .pointer (some ⟨q, 0, none⟩) := hV 27 D27
          exact Inv.wp_fieldAddr (u := .pointer (some ⟨q, 4, none⟩)) rfl ((hin 27 _ _ rfl rfl).trans E27) (fun _ => by kernel_rfl) (hK.out _ W ⟨HM, flow_vals hV rfl⟩)
        · intro L v W aAct hF hn hd hin hout K hK
          obtain ⟨HM, hV⟩ := hF
          have D28 : L 28 = true := hd ⟨28, Go.Ground.data⟩ (by simp) rfl
          have D21 : L 21 = true := hd ⟨21, Go.Ground.guard⟩ (by simp) rfl
          have E21 : v 21 = .bool false := hV 21 D21
          rw [if_pos (by rw [Inv.wanted_of (b := false) rfl rfl rfl ((hin 21 _ _ rfl rfl).trans E21)]; decide)]
          have E28 : v 28 = .pointer (some ⟨q, 4, none⟩) := hV 28 D28
          exact Mem.wp_load_one HM rfl ((hin 28 _ _ rfl rfl).trans E28) (by kernel_rfl) (.inr (.tail _ (.head _))) rfl (hK.out _ W ⟨HM, flow_vals hV rfl⟩)
        · intro L v W aAct hF hn hd hin hout K hK
          obtain ⟨HM, hV⟩ := hF
          have D25 : L 25 = true := hd ⟨25, Go.Ground.data⟩ (by simp) rfl
          have D29 : L 29 = true := hd ⟨29, Go.Ground.data⟩ (by simp) rfl
          have D21 : L 21 = true := hd ⟨21, Go.Ground.guard⟩ (by simp) rfl
          have E21 : v 21 = .bool false := hV 21 D21
          rw [if_pos (by rw [Inv.wanted_of (b := false) rfl rfl rfl ((hin 21 _ _ rfl rfl).trans E21)]; decide)]
          have E25 : v 25 = .int .i64 s0 := hV 25 D25
          have E29 : v 29 = .int .i64 s1 := hV 29 D29
          exact Inv.wp_binop (u := .bool true) rfl ((hin 25 _ _ rfl rfl).trans E25) ((hin 29 _ _ rfl rfl).trans E29) (fun w => (run_neq_intE _ _ _ _ w).trans (by rw [n2])) (hK.out _ W ⟨HM, flow_vals hV rfl⟩)
        · intro L v W aAct hF hn hd hin hout K hK
          obtain ⟨HM, hV⟩ := hF
          have D21 : L 21 = true := hd ⟨21, Go.Ground.data⟩ (by simp) rfl
          have D30 : L 30 = true := hd ⟨30, Go.Ground.data⟩ (by simp) rfl
          rw [if_pos (by rfl)]
          have E21 : v 21 = .bool false := hV 21 D21
          have E30 : v 30 = .bool true := hV 30 D30
          exact Inv.wp_pick rfl ((hin 21 _ _ rfl rfl).trans E21) ((if_neg Bool.false_ne_true).trans ((hin 30 _ _ rfl rfl).trans E30)) (hK.out _ W ⟨HM, flow_vals hV rfl⟩)
        · intro L v W aAct hF hn hd hin hout K hK
          obtain ⟨HM, hV⟩ := hF
          have D31 : L 31 = true := hd ⟨31, Go.Ground.data⟩ (by simp) rfl
          rw [if_pos (by rfl)]
          have E31 : v 31 = .bool true := hV 31 D31
          exact Inv.wp_move (.inl rfl) ((hin 31 _ _ rfl rfl).trans E31) (hK.out _ W ⟨HM, flow_vals hV rfl⟩)
        · intro L v W aAct hF hn hd hin hout K hK
          obtain ⟨HM, hV⟩ := hF
          have D32 : L 32 = true := hd ⟨32, Go.Ground.guard⟩ (by simp) rfl
          have E32 : v 32 = .bool true := hV 32 D32
          rw [if_neg (by rw [Inv.wanted_of (b := true) rfl rfl rfl ((hin 32 _ _ rfl rfl).trans E32)]; decide)]
          exact hK.out _ W ⟨HM, flow_vals hV rfl⟩
        · intro L v W aAct hF hn hd hin hout K hK
          obtain ⟨HM, hV⟩ := hF
          have D32 : L 32 = true := hd ⟨32, Go.Ground.guard⟩ (by simp) rfl
          have E32 : v 32 = .bool true := hV 32 D32
          rw [if_neg (by rw [Inv.wanted_of (b := true) rfl rfl rfl ((hin 32 _ _ rfl rfl).trans E32)]; decide)]
          exact hK.out _ W ⟨HM, flow_vals hV rfl⟩
        · intro L v W aAct hF hn hd hin hout K hK
          obtain ⟨HM, hV⟩ := hF
          have D32 : L 32 = true := hd ⟨32, Go.Ground.guard⟩ (by simp) rfl
          have E32 : v 32 = .bool true := hV 32 D32
          rw [if_neg (by rw [Inv.wanted_of (b := true) rfl rfl rfl ((hin 32 _ _ rfl rfl).trans E32)]; decide)]
          exact hK.out _ W ⟨HM, flow_vals hV rfl⟩
        · intro L v W aAct hF hn hd hin hout K hK
          obtain ⟨HM, hV⟩ := hF
          have D32 : L 32 = true := hd ⟨32, Go.Ground.guard⟩ (by simp) rfl
          have E32 : v 32 = .bool true := hV 32 D32
          rw [if_neg (by rw [Inv.wanted_of (b := true) rfl rfl rfl ((hin 32 _ _ rfl rfl).trans E32)]; decide)]
          exact hK.out _ W ⟨HM, flow_vals hV rfl⟩
        · intro L v W aAct hF hn hd hin hout K hK
          obtain ⟨HM, hV⟩ := hF
          have D32 : L 32 = true := hd ⟨32, Go.Ground.guard⟩ (by simp) rfl
          have E32 : v 32 = .bool true := hV 32 D32
          rw [if_neg (by rw [Inv.wanted_of (b := true) rfl rfl rfl ((hin 32 _ _ rfl rfl).trans E32)]; decide)]
          exact hK.out _ W ⟨HM, flow_vals hV rfl⟩
        · intro L v W aAct hF hn hd hin hout K hK
          obtain ⟨HM, hV⟩ := hF
          have D32 : L 32 = true := hd ⟨32, Go.Ground.guard⟩ (by simp) rfl
          have E32 : v 32 = .bool true := hV 32 D32
          rw [if_neg (by rw [Inv.wanted_of (b := true) rfl rfl rfl ((hin 32 _ _ rfl rfl).trans E32)]; decide)]
          exact hK.out _ W ⟨HM, flow_vals hV rfl⟩
        · intro L v W aAct hF hn hd hin hout K hK
          obtain ⟨HM, hV⟩ := hF
          have D32 : L 32 = true := hd ⟨32, Go.Ground.guard⟩ (by simp) rfl
          have E32 : v 32 = .bool true := hV 32 D32
          rw [if_neg (by rw [Inv.wanted_of (b := true) rfl rfl rfl ((hin 32 _ _ rfl rfl).trans E32)]; decide)]
          exact hK.out _ W ⟨HM, flow_vals hV rfl⟩
        · intro L v W aAct hF hn hd hin hout K hK
          obtain ⟨HM, hV⟩ := hF
          have D32 : L 32 = true := hd ⟨32, Go.Ground.guard⟩ (by simp) rfl
          have E32 : v 32 = .bool true := hV 32 D32
          rw [if_neg (by rw [Inv.wanted_of (b := true) rfl rfl rfl ((hin 32 _ _ rfl rfl).trans E32)]; decide)]
          exact hK.out _ W ⟨HM, flow_vals hV rfl⟩
        · intro L v W aAct hF hn hd hin hout K hK
          obtain ⟨HM, hV⟩ := hF
          have D32 : L 32 = true := hd ⟨32, Go.Ground.guard⟩ (by simp) rfl
          have E32 : v 32 = .bool true := hV 32 D32
          rw [if_neg (by rw [Inv.wanted_of (b := true) rfl rfl rfl ((hin 32 _ _ rfl rfl).trans E32)]; decide)]
          exact hK.out _ W ⟨HM, flow_vals hV rfl⟩
        · intro L v W aAct hF hn hd hin hout K hK
          obtain ⟨HM, hV⟩ := hF
          have D32 : L 32 = true := hd ⟨32, Go.Ground.data⟩ (by simp) rfl
          rw [if_pos (by rfl)]
          have E32 : v 32 = .bool true := hV 32 D32
          exact Inv.wp_pick rfl ((hin 32 _ _ rfl rfl).trans E32) ((if_pos rfl).trans rfl) (hK.out _ W ⟨HM, flow_vals hV rfl⟩)
        · intro L v W aAct hF hn hd hin hout K hK
          obtain ⟨HM, hV⟩ := hF
          have D42 : L 42 = true := hd ⟨42, Go.Ground.data⟩ (by simp) rfl
          rw [if_pos (by rfl)]
          have E42 : v 42 = .bool true := hV 42 D42
          exact Inv.wp_move (.inl rfl) ((hin 42 _ _ rfl rfl).trans E42) (hK.out _ W ⟨HM, flow_vals hV rfl⟩)
        · intro L v W aAct hF hn hd hin hout K hK
          obtain ⟨HM, hV⟩ := hF
          have D43 : L 43 = true := hd ⟨43, Go.Ground.guard⟩ (by simp) rfl
          have E43 : v 43 = .bool true := hV 43 D43
          rw [if_neg (by rw [Inv.wanted_of (b := true) rfl rfl rfl ((hin 43 _ _ rfl rfl).trans E43)]; decide)]
          exact hK.out _ W ⟨HM, flow_vals hV rfl⟩
        · intro L v W aAct hF hn hd hin hout K hK
          obtain ⟨HM, hV⟩ := hF
          have D43 : L 43 = true := hd ⟨43, Go.Ground.guard⟩ (by simp) rfl
          have E43 : v 43 = .bool true := hV 43 D43
          rw [if_neg (by rw [Inv.wanted_of (b := true) rfl rfl rfl ((hin 43 _ _ rfl rfl).trans E43)]; decide)]
          exact hK.out _ W ⟨HM, flow_vals hV rfl⟩
        · intro L v W aAct hF hn hd hin hout K hK
          obtain ⟨HM, hV⟩ := hF
          have D43 : L 43 = true := hd ⟨43, Go.Ground.guard⟩ (by simp) rfl
          have E43 : v 43 = .bool true := hV 43 D43
          rw [if_neg (by rw [Inv.wanted_of (b := true) rfl rfl rfl ((hin 43 _ _ rfl rfl).trans E43)]; decide)]
          exact hK.out _ W ⟨HM, flow_vals hV rfl⟩
        · intro L v W aAct hF hn hd hin hout K hK
          obtain ⟨HM, hV⟩ := hF
          have D43 : L 43 = true := hd ⟨43, Go.Ground.guard⟩ (by simp) rfl
          have E43 : v 43 = .bool true := hV 43 D43
          rw [if_neg (by rw [Inv.wanted_of (b := true) rfl rfl rfl ((hin 43 _ _ rfl rfl).trans E43)]; decide)]
          exact hK.out _ W ⟨HM, flow_vals hV rfl⟩
        · intro L v W aAct hF hn hd hin hout K hK
          obtain ⟨HM, hV⟩ := hF
          have D43 : L 43 = true := hd ⟨43, Go.Ground.guard⟩ (by simp) rfl
          have E43 : v 43 = .bool true := hV 43 D43
          rw [if_neg (by rw [Inv.wanted_of (b := true) rfl rfl rfl ((hin 43 _ _ rfl rfl).trans E43)]; decide)]
          exact hK.out _ W ⟨HM, flow_vals hV rfl⟩
        · intro L v W aAct hF hn hd hin hout K hK
          obtain ⟨HM, hV⟩ := hF
          have D43 : L 43 = true := hd ⟨43, Go.Ground.guard⟩ (by simp) rfl
          have E43 : v 43 = .bool true := hV 43 D43
          rw [if_neg (by rw [Inv.wanted_of (b := true) rfl rfl rfl ((hin 43 _ _ rfl rfl).trans E43)]; decide)]
          exact hK.out _ W ⟨HM, flow_vals hV rfl⟩
        · intro L v W aAct hF hn hd hin hout K hK
          obtain ⟨HM, hV⟩ := hF
          have D43 : L 43 = true := hd ⟨43, Go.Ground.guard⟩ (by simp) rfl
          have E43 : v 43 = .bool true := hV 43 D43
          rw [if_neg (by rw [Inv.wanted_of (b := true) rfl rfl rfl ((hin 43 _ _ rfl rfl).trans E43)]; decide)]
          exact hK.out _ W ⟨HM, flow_vals hV rfl⟩
        · intro L v W aAct hF hn hd hin hout K hK
          obtain ⟨HM, hV⟩ := hF
          have D43 : L 43 = true := hd ⟨43, Go.Ground.guard⟩ (by simp) rfl
          have E43 : v 43 = .bool true := hV 43 D43
          rw [if_neg (by rw [Inv.wanted_of (b := true) rfl rfl rfl ((hin 43 _ _ rfl rfl).trans E43)]; decide)]
          exact hK.out _ W ⟨HM, flow_vals hV rfl⟩
        · intro L v W aAct hF hn hd hin hout K hK
          obtain ⟨HM, hV⟩ := hF
          have D43 : L 43 = true := hd ⟨43, Go.Ground.chain⟩ (by simp) rfl
          have E43 : v 43 = .bool true := hV 43 D43
          rw [if_neg (by rw [Inv.wanted_of (b := true) rfl rfl rfl ((hin 43 _ _ rfl rfl).trans E43)]; decide)]
          exact hK.out _ W ⟨HM, flow_vals hV rfl⟩
        · intro L v W aAct hF hn hd hin hout K hK
          obtain ⟨HM, hV⟩ := hF
          have D43 : L 43 = true := hd ⟨43, Go.Ground.guard⟩ (by simp) rfl
          have E43 : v 43 = .bool true := hV 43 D43
          rw [if_neg (by rw [Inv.wanted_of (b := true) rfl rfl rfl ((hin 43 _ _ rfl rfl).trans E43)]; decide)]
          exact hK.out _ W ⟨HM, flow_vals hV rfl⟩
        · intro L v W aAct hF hn hd hin hout K hK
          obtain ⟨HM, hV⟩ := hF
          have D43 : L 43 = true := hd ⟨43, Go.Ground.data⟩ (by simp) rfl
          rw [if_pos (by rfl)]
          have E43 : v 43 = .bool true := hV 43 D43
          exact Inv.wp_pick rfl ((hin 43 _ _ rfl rfl).trans E43) ((if_pos rfl).trans rfl) (hK.out _ W ⟨HM, flow_vals hV rfl⟩)
        · intro L v W aAct hF hn hd hin hout K hK
          obtain ⟨HM, hV⟩ := hF
          have D54 : L 54 = true := hd ⟨54, Go.Ground.data⟩ (by simp) rfl
          rw [if_pos (by rfl)]
          have E54 : v 54 = .bool true := hV 54 D54
          exact Inv.wp_move (.inl rfl) ((hin 54 _ _ rfl rfl).trans E54) (hK.out _ W ⟨HM, flow_vals hV rfl⟩)
        · intro L v W aAct hF hn hd hin hout K hK
          obtain ⟨HM, hV⟩ := hF
          have D55 : L 55 = true := hd ⟨55, Go.Ground.guard⟩ (by simp) rfl
          have E55 : v 55 = .bool true := hV 55 D55
          rw [if_neg (by rw [Inv.wanted_of (b := true) rfl rfl rfl ((hin 55 _ _ rfl rfl).trans E55)]; decide)]
          exact hK.out _ W ⟨HM, flow_vals hV rfl⟩
        · intro L v W aAct hF hn hd hin hout K hK
          obtain ⟨HM, hV⟩ := hF
          have D55 : L 55 = true := hd ⟨55, Go.Ground.guard⟩ (by simp) rfl
          have E55 : v 55 = .bool true := hV 55 D55
          rw [if_neg (by rw [Inv.wanted_of (b := true) rfl rfl rfl ((hin 55 _ _ rfl rfl).trans E55)]; decide)]
          exact hK.out _ W ⟨HM, flow_vals hV rfl⟩
        · intro L v W aAct hF hn hd hin hout K hK
          obtain ⟨HM, hV⟩ := hF
          have D55 : L 55 = true := hd ⟨55, Go.Ground.guard⟩ (by simp) rfl
          have E55 : v 55 = .bool true := hV 55 D55
          rw [if_neg (by rw [Inv.wanted_of (b := true) rfl rfl rfl ((hin 55 _ _ rfl rfl).trans E55)]; decide)]
          exact hK.out _ W ⟨HM, flow_vals hV rfl⟩
        · intro L v W aAct hF hn hd hin hout K hK
          obtain ⟨HM, hV⟩ := hF
          have D55 : L 55 = true := hd ⟨55, Go.Ground.guard⟩ (by simp) rfl
          have E55 : v 55 = .bool true := hV 55 D55
          rw [if_neg (by rw [Inv.wanted_of (b := true) rfl rfl rfl ((hin 55 _ _ rfl rfl).trans E55)]; decide)]
          exact hK.out _ W ⟨HM, flow_vals hV rfl⟩
        · intro L v W aAct hF hn hd hin hout K hK
          obtain ⟨HM, hV⟩ := hF
          have D55 : L 55 = true := hd ⟨55, Go.Ground.guard⟩ (by simp) rfl
          have E55 : v 55 = .bool true := hV 55 D55
          rw [if_neg (by rw [Inv.wanted_of (b := true) rfl rfl rfl ((hin 55 _ _ rfl rfl).trans E55)]; decide)]
          exact hK.out _ W ⟨HM, flow_vals hV rfl⟩
        · intro L v W aAct hF hn hd hin hout K hK
          obtain ⟨HM, hV⟩ := hF
          have D55 : L 55 = true := hd ⟨55, Go.Ground.guard⟩ (by simp) rfl
          have E55 : v 55 = .bool true := hV 55 D55
          rw [if_neg (by rw [Inv.wanted_of (b := true) rfl rfl rfl ((hin 55 _ _ rfl rfl).trans E55)]; decide)]
          exact hK.out _ W ⟨HM, flow_vals hV rfl⟩
        · intro L v W aAct hF hn hd hin hout K hK
          obtain ⟨HM, hV⟩ := hF
          have D55 : L 55 = true := hd ⟨55, Go.Ground.guard⟩ (by simp) rfl
          have E55 : v 55 = .bool true := hV 55 D55
          rw [if_neg (by rw [Inv.wanted_of (b := true) rfl rfl rfl ((hin 55 _ _ rfl rfl).trans E55)]; decide)]
          exact hK.out _ W ⟨HM, flow_vals hV rfl⟩
        · intro L v W aAct hF hn hd hin hout K hK
          obtain ⟨HM, hV⟩ := hF
          have D55 : L 55 = true := hd ⟨55, Go.Ground.guard⟩ (by simp) rfl
          have E55 : v 55 = .bool true := hV 55 D55
          rw [if_neg (by rw [Inv.wanted_of (b := true) rfl rfl rfl ((hin 55 _ _ rfl rfl).trans E55)]; decide)]
          exact hK.out _ W ⟨HM, flow_vals hV rfl⟩
        · intro L v W aAct hF hn hd hin hout K hK
          obtain ⟨HM, hV⟩ := hF
          have D55 : L 55 = true := hd ⟨55, Go.Ground.guard⟩ (by simp) rfl
          have E55 : v 55 = .bool true := hV 55 D55
          rw [if_neg (by rw [Inv.wanted_of (b := true) rfl rfl rfl ((hin 55 _ _ rfl rfl).trans E55)]; decide)]
          exact hK.out _ W ⟨HM, flow_vals hV rfl⟩
        · intro L v W aAct hF hn hd hin hout K hK
          obtain ⟨HM, hV⟩ := hF
          have D55 : L 55 = true := hd ⟨55, Go.Ground.guard⟩ (by simp) rfl
          have E55 : v 55 = .bool true := hV 55 D55
          rw [if_neg (by rw [Inv.wanted_of (b := true) rfl rfl rfl ((hin 55 _ _ rfl rfl).trans E55)]; decide)]
          exact hK.out _ W ⟨HM, flow_vals hV rfl⟩
        · intro L v W aAct hF hn hd hin hout K hK
          obtain ⟨HM, hV⟩ := hF
          have D55 : L 55 = true := hd ⟨55, Go.Ground.guard⟩ (by simp) rfl
          have E55 : v 55 = .bool true := hV 55 D55
          rw [if_neg (by rw [Inv.wanted_of (b := true) rfl rfl rfl ((hin 55 _ _ rfl rfl).trans E55)]; decide)]
          exact hK.out _ W ⟨HM, flow_vals hV rfl⟩
        · intro L v W aAct hF hn hd hin hout K hK
          obtain ⟨HM, hV⟩ := hF
          have D55 : L 55 = true := hd ⟨55, Go.Ground.data⟩ (by simp) rfl
          rw [if_pos (by rfl)]
          have E55 : v 55 = .bool true := hV 55 D55
          exact Inv.wp_pick rfl ((hin 55 _ _ rfl rfl).trans E55) ((if_pos rfl).trans rfl) (hK.out _ W ⟨HM, flow_vals hV rfl⟩)
        clear HM
        intro L v W2 hL hF
        obtain ⟨HM, hV⟩ := hF
        have E67 : v 67 = .bool true := hV 67 (hL 67 rfl)
        simp only [Inv.putAll, List.append, Act.put, List.setIfInBounds_toArray, List.set_cons_zero, List.set_cons_succ, E67]
        clear hV hL E67
        obtain ⟨W, hWW⟩ : ∃ W, W = W2 := ⟨_, rfl⟩; subst hWW
        go_wp2_with fail
        simp [bodyPost, results, Try.results16, go_sem]
        exact ⟨_, rfl, by rw [HR.out]; exact rfl, HM.below⟩
      · skip
        cases b3 : (f0 == f1)
        · have HP2 : Aside (∀ w, Calls Try.prog 34 #[.agg #[.float .f32 a0.1, .float .f32 a0.2.1, .float .f32 a0.2.2], .agg #[.float .f32 a1.1, .float .f32 a1.2.1, .float .f32 a1.2.2]] w (Gives (isB true) w)) := by
            have HP : ∀ w, Calls Try.prog 34 #[.agg #[.float .f32 a0.1, .float .f32 a0.2.1, .float .f32 a0.2.2], .agg #[.float .f32 a1.1, .float .f32 a1.2.1, .float .f32 a1.2.2]] w (Gives (isB (sameT a0 a1)) w) := fun w => l01SamePoint_any a0.1 a0.2.1 a0.2.2 a1.1 a1.2.1 a1.2.2 w
            rw [b1] at HP
            exact HP
          have n0 : (k0 != k1) = false := by simp only [bne, b0, Bool.not_true, Bool.not_false]
          have n2 : (s0 != s1) = false := by simp only [bne, b2, Bool.not_true, Bool.not_false]
          have n3 : (f0 != f1) = true := by simp only [bne, b3, Bool.not_true, Bool.not_false]
          have HR : Aside (sameC k0 k1 a0 a1 s0 s1 f0 f1 h0 h1 z0 z1 = false) := by show sameC k0 k1 a0 a1 s0 s1 f0 f1 h0 h1 z0 z1 = false; unfold sameC; simp only [b0, b1, b2, b3, Bool.true_and, Bool.false_and, Bool.and_false, Bool.and_self]
          go_enter Try.func16, Try.ntmps16
          go_wp2_with fail
          refine Inv.wp_region_flow (F := fun L v W => Mem w W [(p, [.int .i8 k0, .float .f32 a0.1, .float .f32 a0.2.1, .float .f32 a0.2.2, .int .i64 s0, .int .i64 f0, .float .f32 h0, .slice x0 z0.length y0]), (q, [.int .i8 k1, .float .f32 a1.1, .float .f32 a1.2.1, .float .f32 a1.2.2, .int .i64 s1, .int .i64 f1, .float .f32 h1, .slice x1 z1.length y1])] [] ∧ ∀ j, L j = true → v j = ([.pointer (some ⟨p, 0, none⟩), .pointer (some ⟨p, 0, none⟩), .pointer (some ⟨p, 0, none⟩), .int .i8 k0, .pointer (some ⟨q, 0, none⟩), .pointer (some ⟨q, 0, none⟩), .pointer (some ⟨q, 0, none⟩), .int .i8 k1, .bool false, .bool false, .pointer (some ⟨p, 0, none⟩), .pointer (some ⟨p, 0, none⟩), .pointer (some ⟨p, 1, none⟩), .agg #[.float .f32 a0.1, .float .f32 a0.2.1, .float .f32 a0.2.2], .pointer (some ⟨q, 0, none⟩), .pointer (some ⟨q, 0, none⟩), .pointer (some ⟨q, 1, none⟩), .agg #[.float .f32 a1.1, .float .f32 a1.2.1, .float .f32 a1.2.2], .bool true, .bool false, .bool false, .bool false, .pointer (some ⟨p, 0, none⟩), .pointer (some ⟨p, 0, none⟩), .pointer (some ⟨p, 4, none⟩), .int .i64 s0, .pointer (some ⟨q, 0, none⟩), .pointer (some ⟨q, 0, none⟩), .pointer (some ⟨q, 4, none⟩), .int .i64 s1, .bool false, .bool false, .bool false, .pointer (some ⟨p, 0, none⟩), .pointer (some ⟨p, 0, none⟩), .pointer (some ⟨p, 5, none⟩), .int .i64 f0, .pointer (some ⟨q, 0, none⟩), .pointer (some ⟨q, 0, none⟩), .pointer (some ⟨q, 5, none⟩), .int .i64 f1, .bool true, .bool true, .bool true, undef, undef, undef, undef, undef, undef, undef, undef, undef, undef, .bool true, .bool true, undef, undef, undef, undef, undef, undef, undef, undef, undef, undef, undef, .bool true] : List Value).getD j undef) (by kernel_rfl) (by kernel_rfl) (by kernel_rfl) (fun v => ⟨HM.drew, fun j h => absurd h Bool.false_ne_true⟩) ⟨?_, ?_, ?_, ?_, ?_, ?_, ?_, ?_, ?_, ?_, ?_, ?_, ?_, ?_, ?_, ?_, ?_, ?_, ?_, ?_, ?_, ?_, ?_, ?_, ?_, ?_, ?_, ?_, ?_, ?_, ?_, ?_, ?_, ?_, ?_, ?_, ?_, ?_, ?_, ?_, ?_, ?_, ?_, ?_, ?_, ?_, ?_, ?_, ?_, ?_, ?_, ?_, ?_, ?_, ?_, ?_, ?_, ?_, ?_, ?_, ?_, ?_, ?_, ?_, ?_, ?_, ?_, ?_, trivial⟩ ?_
          · intro L v W aAct hF hn hd hin hout K hK
            obtain ⟨HM, hV⟩ := hF
            rw [if_pos (by rfl)]
            exact Inv.wp_move (.inl rfl) ((hout 0 rfl).trans rfl) (hK.out _ W ⟨HM, flow_vals hV rfl⟩)
          · intro L v W aAct hF hn hd hin hout K hK
            obtain ⟨HM, hV⟩ := hF
            have D0 : L 0 = true := hd ⟨0, Go.Ground.data⟩ (by simp) rfl
            rw [if_pos (by rfl)]
            have E0 : v 0 = .pointer (some ⟨p, 0, none⟩) := hV 0 D0
            exact Inv.wp_nilCheck rfl ((hin 0 _ _ rfl rfl).trans E0) (hK.out _ W ⟨HM, flow_vals hV rfl⟩)
          · intro L v W aAct hF hn hd hin hout K hK
            obtain ⟨HM, hV⟩ := hF
            have D1 : L 1 = true := hd ⟨1, Go.Ground.data⟩ (by simp) rfl
            rw [if_pos (by rfl)]
            have E1 : v 1 = .pointer (some ⟨p, 0, none⟩) := hV 1 D1
            exact Inv.wp_fieldAddr (u := .pointer (some ⟨p, 0, none⟩)) rfl ((hin 1 _ _ rfl rfl).trans E1) (fun _ => by kernel_rfl) (hK.out _ W ⟨HM, flow_vals hV rfl⟩)
          · intro L v W aAct hF hn hd hin hout K hK
            obtain ⟨HM, hV⟩ := hF
            have D2 : L 2 = true := hd ⟨2, Go.Ground.data⟩ (by simp) rfl
            rw [if_pos (by rfl)]
            have E2 : v 2 = .pointer (some ⟨p, 0, none⟩) := hV 2 D2
            exact Mem.wp_load_one HM rfl ((hin 2 _ _ rfl rfl).trans E2) (by kernel_rfl) (.inr (.head _)) rfl (hK.out _ W ⟨HM, flow_vals hV rfl⟩)
          · intro L v W aAct hF hn hd hin hout K hK
            obtain ⟨HM, hV⟩ := hF
            rw [if_pos (by rfl)]
            exact Inv.wp_move (.inl rfl) ((hout 1 rfl).trans rfl) (hK.out _ W ⟨HM, flow_vals hV rfl⟩)
          · intro L v W aAct hF hn hd hin hout K hK
            obtain ⟨HM, hV⟩ := hF
            have D4 : L 4 = true := hd ⟨4, Go.Ground.data⟩ (by simp) rfl
            rw [if_pos (by rfl)]
            have E4 : v 4 = .pointer (some ⟨q, 0, none⟩) := hV 4 D4
            exact Inv.wp_nilCheck rfl ((hin 4 _ _ rfl rfl).trans E4) (hK.out _ W ⟨HM, flow_vals hV rfl⟩)
          · intro L v W aAct hF hn hd hin hout K hK
            obtain ⟨HM, hV⟩ := hF
            have D5 : L 5 = true := hd ⟨5, Go.Ground.data⟩ (by simp) rfl
            rw [if_pos (by rfl)]
            have E5 : v 5 = .pointer (some ⟨q, 0, none⟩) := hV 5 D5
            exact Inv.wp_fieldAddr (u := .pointer (some ⟨q, 0, none⟩)) rfl ((hin 5 _ _ rfl rfl).trans E5) (fun _ => by kernel_rfl) (hK.out _ W ⟨HM, flow_vals hV rfl⟩)
          · intro L v W aAct hF hn hd hin hout K hK
            obtain ⟨HM, hV⟩ := hF
            have D6 : L 6 = true := hd ⟨6, Go.Ground.data⟩ (by simp) rfl
            rw [if_pos (by rfl)]
            have E6 : v 6 = .pointer (some ⟨q, 0, none⟩) := hV 6 D6
            exact Mem.wp_load_one HM rfl ((hin 6 _ _ rfl rfl).trans E6) (by kernel_rfl) (.inr (.tail _ (.head _))) rfl (hK.out _ W ⟨HM, flow_vals hV rfl⟩)
          · intro L v W aAct hF hn hd hin hout K hK
            obtain ⟨HM, hV⟩ := hF
            have D3 : L 3 = true := hd ⟨3, Go.Ground.data⟩ (by simp) rfl
            have D7 : L 7 = true := hd ⟨7, Go.Ground.data⟩ (by simp) rfl
            rw [if_pos (by rfl)]
            have E3 : v 3 = .int .i8 k0 := hV 3 D3
            have E7 : v 7 = .int .i8 k1 := hV 7 D7
            exact Inv.wp_binop (u := .bool false) rfl ((hin 3 _ _ rfl rfl).trans E3) ((hin 7 _ _ rfl rfl).trans E7) (fun w => (run_neq_intE _ _ _ _ w).trans (by rw [n0])) (hK.out _ W ⟨HM, flow_vals hV rfl⟩)
          · intro L v W aAct hF hn hd hin hout K hK
            obtain ⟨HM, hV⟩ := hF
            have D8 : L 8 = true := hd ⟨8, Go.Ground.data⟩ (by simp) rfl
            rw [if_pos (by rfl)]
            have E8 : v 8 = .bool false := hV 8 D8
            exact Inv.wp_move (.inl rfl) ((hin 8 _ _ rfl rfl).trans E8) (hK.out _ W ⟨HM, flow_vals hV rfl⟩)
          · intro L v W aAct hF hn hd hin hout K hK
            obtain ⟨HM, hV⟩ := hF
            have D9 : L 9 = true := hd ⟨9, Go.Ground.guard⟩ (by simp) rfl
            have E9 : v 9 = .bool false := hV 9 D9
            rw [if_pos (by rw [Inv.wanted_of (b := false) rfl rfl rfl ((hin 9 _ _ rfl rfl).trans E9)]; decide)]
            exact Inv.wp_move (.inl rfl) ((hout 0 rfl).trans rfl) (hK.out _ W ⟨HM, flow_vals hV rfl⟩)
          · intro L v W aAct hF hn hd hin hout K hK
            obtain ⟨HM, hV⟩ := hF
            have D10 : L 10 = true := hd ⟨10, Go.Ground.data⟩ (by simp) rfl
            have D9 : L 9 = true := hd ⟨9, Go.Ground.guard⟩ (by simp) rfl
            have E9 : v 9 = .bool false := hV 9 D9
            rw [if_pos (by rw [Inv.wanted_of (b := false) rfl rfl rfl ((hin 9 _ _ rfl rfl).trans E9)]; decide)]
            have E10 : v 10 = .pointer (some ⟨p, 0, none⟩) := hV 10 D10
            exact Inv.wp_nilCheck rfl ((hin 10 _ _ rfl rfl).trans E10) (hK.out _ W ⟨HM, flow_vals hV rfl⟩)
          · intro L v W aAct hF hn hd hin hout K hK
            obtain ⟨HM, hV⟩ := hF
            have D11 : L 11 = true := hd ⟨11, Go.Ground.data⟩ (by simp) rfl
            have D9 : L 9 = true := hd ⟨9, Go.Ground.guard⟩ (by simp) rfl
            have E9 : v 9 = .bool false := hV 9 D9
            rw [if_pos (by rw [Inv.wanted_of (b := false) rfl rfl rfl ((hin 9 _ _ rfl rfl).trans E9)]; decide)]
            have E11 : v 11 = .pointer (some ⟨p, 0, none⟩) := hV 11 D11
            exact Inv.wp_fieldAddr (u := .pointer (some ⟨p, 1, none⟩)) rfl ((hin 11 _ _ rfl rfl).trans E11) (fun _ => by kernel_rfl) (hK.out _ W ⟨HM, flow_vals hV rfl⟩)
          · intro L v W aAct hF hn hd hin hout K hK
            obtain ⟨HM, hV⟩ := hF
            have D12 : L 12 = true := hd ⟨12, Go.Ground.data⟩ (by simp) rfl
            have D9 : L 9 = true := hd ⟨9, Go.Ground.guard⟩ (by simp) rfl
            have E9 : v 9 = .bool false := hV 9 D9
            rw [if_pos (by rw [Inv.wanted_of (b := false) rfl rfl rfl ((hin 9 _ _ rfl rfl).trans E9)]; decide)]
            have E12 : v 12 = .pointer (some ⟨p, 1, none⟩) := hV 12 D12
            exact Mem.wp_load_row HM 3 rfl ((hin 12 _ _ rfl rfl).trans E12) (by kernel_rfl) (.inr (.head _)) rfl rfl (hK.out _ W ⟨HM, flow_vals hV rfl⟩)
          · intro L v W aAct hF hn hd hin hout K hK
            obtain ⟨HM, hV⟩ := hF
            have D9 : L 9 = true := hd ⟨9, Go.Ground.guard⟩ (by simp) rfl
            have E9 : v 9 = .bool false := hV 9 D9
            rw [if_pos (by rw [Inv.wanted_of (b := false) rfl rfl rfl ((hin 9 _ _ rfl rfl).trans E9)]; decide)]
            exact Inv.wp_move (.inl rfl) ((hout 1 rfl).trans rfl) (hK.out _ W ⟨HM, flow_vals hV rfl⟩)
          · intro L v W aAct hF hn hd hin hout K hK
            obtain ⟨HM, hV⟩ := hF
            have D14 : L 14 = true := hd ⟨14, Go.Ground.data⟩ (by simp) rfl
            have D9 : L 9 = true := hd ⟨9, Go.Ground.guard⟩ (by simp) rfl
            have E9 : v 9 = .bool false := hV 9 D9
            rw [if_pos (by rw [Inv.wanted_of (b := false) rfl rfl rfl ((hin 9 _ _ rfl rfl).trans E9)]; decide)]
            have E14 : v 14 = .pointer (some ⟨q, 0, none⟩) := hV 14 D14
            exact Inv.wp_nilCheck rfl ((hin 14 _ _ rfl rfl).trans E14) (hK.out _ W ⟨HM, flow_vals hV rfl⟩)
          · intro L v W aAct hF hn hd hin hout K hK
            obtain ⟨HM, hV⟩ := hF
            have D15 : L 15 = true := hd ⟨15, Go.Ground.data⟩ (by simp) rfl
            have D9 : L 9 = true := hd ⟨9, Go.Ground.guard⟩ (by simp) rfl
            have E9 : v 9 = .bool false := hV 9 D9
            rw [if_pos (by rw [Inv.wanted_of (b := false) rfl rfl rfl ((hin 9 _ _ rfl rfl).trans E9)]; decide)]
            have E15 : v 15 = .pointer (some ⟨q, 0, none⟩) := hV 15 D15
            exact Inv.wp_fieldAddr (u := .pointer (some ⟨q, 1, none⟩)) rfl ((hin 15 _ _ rfl rfl).trans E15) (fun _ => by kernel_rfl) (hK.out _ W ⟨HM, flow_vals hV rfl⟩)
          · intro L v W aAct hF hn hd hin hout K hK
            obtain ⟨HM, hV⟩ := hF
            have D16 : L 16 = true := hd ⟨16, Go.Ground.data⟩ (by simp) rfl
            have D9 : L 9 = true := hd ⟨9, Go.Ground.guard⟩ (by simp) rfl
            have E9 : v 9 = .bool false := hV 9 D9
            rw [if_pos (by rw [Inv.wanted_of (b := false) rfl rfl rfl ((hin 9 _ _ rfl rfl).trans E9)]; decide)]
            have E16 : v 16 = .pointer (some ⟨q, 1, none⟩) := hV 16 D16
            exact Mem.wp_load_row HM 3 rfl ((hin 16 _ _ rfl rfl).trans E16) (by kernel_rfl) (.inr (.tail _ (.head _))) rfl rfl (hK.out _ W ⟨HM, flow_vals hV rfl⟩)
          · intro L v W aAct hF hn hd hin hout K hK
            obtain ⟨HM, hV⟩ := hF
            have D13 : L 13 = true := hd ⟨13, Go.Ground.data⟩ (by simp) rfl
            have D17 : L 17 = true := hd ⟨17, Go.Ground.data⟩ (by simp) rfl
            have D9 : L 9 = true := hd ⟨9, Go.Ground.chain⟩ (by simp) rfl
            have E9 : v 9 = .bool false := hV 9 D9
            rw [if_pos (by rw [Inv.wanted_of (b := false) rfl rfl rfl ((hin 9 _ _ rfl rfl).trans E9)]; decide)]
            have E13 : v 13 = .agg #[.float .f32 a0.1, .float .f32 a0.2.1, .float .f32 a0.2.2] := hV 13 D13
            have E17 : v 17 = .agg #[.float .f32 a1.1, .float .f32 a1.2.1, .float .f32 a1.2.2] := hV 17 D17
            refine Inv.wp_call rfl rfl rfl #[.agg #[.float .f32 a0.1, .float .f32 a0.2.1, .float .f32 a0.2.2], .agg #[.float .f32 a1.1, .float .f32 a1.2.1, .float .f32 a1.2.2]] (by simp only [List.map_toArray, List.map_cons, List.map_nil, ((hin 13 _ _ rfl rfl).trans E13), ((hin 17 _ _ rfl rfl).trans E17)]) (by kernel_rfl) ((HP2.out _).mono ?_)
            rintro e W' ⟨_, rfl, rfl, hb⟩
            exact ⟨_, rfl, hK.out _ W' ⟨(HM.call hb), flow_vals hV rfl⟩⟩
          · intro L v W aAct hF hn hd hin hout K hK
            obtain ⟨HM, hV⟩ := hF
            have D18 : L 18 = true := hd ⟨18, Go.Ground.data⟩ (by simp) rfl
            have D9 : L 9 = true := hd ⟨9, Go.Ground.guard⟩ (by simp) rfl
            have E9 : v 9 = .bool false := hV 9 D9
            rw [if_pos (by rw [Inv.wanted_of (b := false) rfl rfl rfl ((hin 9 _ _ rfl rfl).trans E9)]; decide)]
            have E18 : v 18 = .bool true := hV 18 D18
            exact Inv.wp_unop (u := .bool false) rfl ((hin 18 _ _ rfl rfl).trans E18) (fun _ => rfl) (hK.out _ W ⟨HM, flow_vals hV rfl⟩)
          · intro L v W aAct hF hn hd hin hout K hK
            obtain ⟨HM, hV⟩ := hF
            have D9 : L 9 = true := hd ⟨9, Go.Ground.data⟩ (by simp) rfl
            have D19 : L 19 = true := hd ⟨19, Go.Ground.data⟩ (by simp) rfl
            rw [if_pos (by rfl)]
            have E9 : v 9 = .bool false := hV 9 D9
            have E19 : v 19 = .bool false := hV 19 D19
            exact Inv.wp_pick rfl ((hin 9 _ _ rfl rfl).trans E9) ((if_neg Bool.false_ne_true).trans ((hin 19 _ _ rfl rfl).trans E19)) (hK.out _ W ⟨HM, flow_vals hV rfl⟩)
          · intro L v W aAct hF hn hd hin hout K hK
            obtain ⟨HM, hV⟩ := hF
            have D20 : L 20 = true := hd ⟨20, Go.Ground.data⟩ (by simp) rfl
            rw [if_pos (by rfl)]
            have E20 : v 20 = .bool false := hV 20 D20
            exact Inv.wp_move (.inl rfl) ((hin 20 _ _ rfl rfl).trans E20) (hK.out _ W ⟨HM, flow_vals hV rfl⟩)
          · intro L v W aAct hF hn hd hin hout K hK
            obtain ⟨HM, hV⟩ := hF
            have D21 : L 21 = true := hd ⟨21, Go.Ground.guard⟩ (by simp) rfl
            have E21 : v 21 = .bool false := hV 21 D21
            rw [if_pos (by rw [Inv.wanted_of (b := false) rfl rfl rfl ((hin 21 _ _ rfl rfl).trans E21)]; decide)]
            exact Inv.wp_move (.inl rfl) ((hout 0 rfl).trans rfl) (hK.out _ W ⟨HM, flow_vals hV rfl⟩)
          · intro L v W aAct hF hn hd hin hout K hK
            obtain ⟨HM, hV⟩ := hF
            have D22 : L 22 = true := hd ⟨22, Go.Ground.data⟩ (by simp) rfl
            have D21 : L 21 = true := hd ⟨21, Go.Ground.guard⟩ (by simp) rfl
            have E21 : v 21 = .bool false := hV 21 D21
            rw [if_pos (by rw [Inv.wanted_of (b := false) rfl rfl rfl ((hin 21 _ _ rfl rfl).trans E21)]; decide)]
            have E22 : v 22 = .pointer (some ⟨p, 0, none⟩) := hV 22 D22
            exact Inv.wp_nilCheck rfl ((hin 22 _ _ rfl rfl).trans E22) (hK.out _ W ⟨HM, flow_vals hV rfl⟩)
          · intro L v W aAct hF hn hd hin hout K hK
            obtain ⟨HM, hV⟩ := hF
            have D23 : L 23 = true := hd ⟨23, Go.Ground.data⟩ (by simp) rfl
            have D21 : L 21 = true := hd ⟨21, Go.Ground.guard⟩ (by simp) rfl
            have E21 : v 21 = .bool false := hV 21 D21
            rw [if_pos (by rw [Inv.wanted_of (b := false) rfl rfl rfl ((hin 21 _ _ rfl rfl).trans E21)]; decide)]
            have E23 : v 23 = .pointer (some ⟨p, 0, none⟩) := hV 23 D23
            exact Inv.wp_fieldAddr (u := .pointer (some ⟨p, 4, none⟩)) rfl ((hin 23 _ _ rfl rfl).trans E23) (fun _ => by kernel_rfl) (hK.out _ W ⟨HM, flow_vals hV rfl⟩)
          · intro L v W aAct hF hn hd hin hout K hK
            obtain ⟨HM, hV⟩ := hF
            have D24 : L 24 = true := hd ⟨24, Go.Ground.data⟩ (by simp) rfl
            have D21 : L 21 = true := hd ⟨21, Go.Ground.guard⟩ (by simp) rfl
            have E21 : v 21 = .bool false := hV 21 D21
            rw [if_pos (by rw [Inv.wanted_of (b := false) rfl rfl rfl ((hin 21 _ _ rfl rfl).trans E21)]; decide)]
            have E24 : v 24 = .pointer (some ⟨p, 4, none⟩) := hV 24 D24
            exact Mem.wp_load_one HM rfl ((hin 24 _ _ rfl rfl).trans E24) (by kernel_rfl) (.inr (.head _)) rfl (hK.out _ W ⟨HM, flow_vals hV rfl⟩)
          · intro L v W aAct hF hn hd hin hout K hK
            obtain ⟨HM, hV⟩ := hF
            have D21 : L 21 = true := hd ⟨21, Go.Ground.guard⟩ (by simp) rfl
            have E21 : v 21 = .bool false := hV 21 D21
            rw [if_pos (by rw [Inv.wanted_of (b := false) rfl rfl rfl ((hin 21 _ _ rfl rfl).trans E21)]; decide)]
            exact Inv.wp_move (.inl rfl) ((hout 1 rfl).trans rfl) (hK.out _ W ⟨HM, flow_vals hV rfl⟩)
          · intro L v W aAct hF hn hd hin hout K hK
            obtain ⟨HM, hV⟩ := hF
            have D26 : L 26 = true := hd ⟨26, Go.Ground.data⟩ (by simp) rfl
            have D21 : L 21 = true := hd ⟨21, Go.Ground.guard⟩ (by simp) rfl
            have E21 : v 21 = .bool false := hV 21 D21
            rw [if_pos (by rw [Inv.wanted_of (b := false) rfl rfl rfl ((hin 21 _ _ rfl rfl).trans E21)]; decide)]
            have E26 : v 26 = .pointer (some ⟨q, 0, none⟩) := hV 26 D26
            exact Inv.wp_nilCheck rfl ((hin 26 _ _ rfl rfl).trans E26) (hK.out _ W ⟨HM, flow_vals hV rfl⟩)
          · intro L v W aAct hF hn hd hin hout K hK
            obtain ⟨HM, hV⟩ := hF
            have D27 : L 27 = true := hd ⟨27, Go.Ground.data⟩ (by simp) rfl
            have D21 : L 21 = true := hd ⟨21, Go.Ground.guard⟩ (by simp) rfl
            have E21 : v 21 = .bool false := hV 21 D21
            rw [if_pos (by rw [Inv.wanted_of (b := false) rfl rfl rfl ((hin 21 _ _ rfl rfl).trans E21)]; decide)]
            have E27 : v 27 = .pointer (some ⟨q, 0, none⟩) := hV 27 D27
            exact Inv.wp_fieldAddr (u := .pointer (some ⟨q, 4, none⟩)) rfl ((hin 27 _ _ rfl rfl).trans E27) (fun _ => by kernel_rfl) (hK.out _ W ⟨HM, flow_vals hV rfl⟩)
          · intro L v W aAct hF hn hd hin hout K hK
            obtain ⟨HM, hV⟩ := hF
            have D28 : L 28 = true := hd ⟨28, Go.Ground.data⟩ (by simp) rfl
            have D21 : L 21 = true := hd ⟨21, Go.Ground.guard⟩ (by simp) rfl
            have E21 : v 21 = .bool false := hV 21 D21
            rw [if_pos (by rw [Inv.wanted_of (b := false) rfl rfl rfl ((hin 21 _ _ rfl rfl).trans E21)]; decide)]
            have E28 : v 28 = .pointer (some ⟨q, 4, none⟩) := hV 28 D28
            exact Mem.wp_load_one HM rfl ((hin 28 _ _ rfl rfl).trans E28) (by kernel_rfl) (.inr (.tail _ (.head _))) rfl (hK.out _ W ⟨HM, flow_vals hV rfl⟩)
          · intro L v W aAct hF hn hd hin hout K hK
            obtain ⟨HM, hV⟩ := hF
            have D25 : L 25 = true := hd ⟨25, Go.Ground.data⟩ (by simp) rfl
            have D29 : L 29 = true := hd ⟨29, Go.Ground.data⟩ (by simp) rfl
            have D21 : L 21 = true := hd ⟨21, Go.Ground.guard⟩ (by simp) rfl
            have E21 : v 21 = .bool false := hV 21 D21
            rw [if_pos (by rw [Inv.wanted_of (b := false) rfl rfl rfl ((hin 21 _ _ rfl rfl).trans E21)]; decide)]
            have E25 : v 25 = .int .i64 s0 := hV 25 D25
            have E29 : v 29 = .int .i64 s1 := hV 29 D29
            exact Inv.wp_binop (u := .bool false) rfl ((hin 25 _ _ rfl rfl).trans E25) ((hin 29 _ _ rfl rfl).trans E29) (fun w => (run_neq_intE _ _ _ _ w).trans (by rw [n2])) (hK.out _ W ⟨HM, flow_vals hV rfl⟩)
          · intro L v W aAct hF hn hd hin hout K hK
            obtain ⟨HM, hV⟩ := hF
            have D21 : L 21 = true := hd ⟨21, Go.Ground.data⟩ (by simp) rfl
            have D30 : L 30 = true := hd ⟨30, Go.Ground.data⟩ (by simp) rfl
            rw [if_pos (by rfl)]
            have E21 : v 21 = .bool false := hV 21 D21
            have E30 : v 30 = .bool false := hV 30 D30
            exact Inv.wp_pick rfl ((hin 21 _ _ rfl rfl).trans E21) ((if_neg Bool.false_ne_true).trans ((hin 30 _ _ rfl rfl).trans E30)) (hK.out _ W ⟨HM, flow_vals hV rfl⟩)
          · intro L v W aAct hF hn hd hin hout K hK
            obtain ⟨HM, hV⟩ := hF
            have D31 : L 31 = true := hd ⟨31, Go.Ground.data⟩ (by simp) rfl
            rw [if_pos (by rfl)]
            have E31 : v 31 = .bool false := hV 31 D31
            exact Inv.wp_move (.inl rfl) ((hin 31 _ _ rfl rfl).trans E31) (hK.out _ W ⟨HM, flow_vals hV rfl⟩)
          · intro L v W aAct hF hn hd hin hout K hK
            obtain ⟨HM, hV⟩ := hF
            have D32 : L 32 = true := hd ⟨32, Go.Ground.guard⟩ (by simp) rfl
            have E32 : v 32 = .bool false := hV 32 D32
            rw [if_pos (by rw [Inv.wanted_of (b := false) rfl rfl rfl ((hin 32 _ _ rfl rfl).trans E32)]; decide)]
            exact Inv.wp_move (.inl rfl) ((hout 0 rfl).trans rfl) (hK.out _ W ⟨HM, flow_vals hV rfl⟩)
          · intro L v W aAct hF hn hd hin hout K hK
            obtain ⟨HM, hV⟩ := hF
            have D33 : L 33 = true := hd ⟨33, Go.Ground.data⟩ (by simp) rfl
            have D32 : L 32 = true := hd ⟨32, Go.Ground.guard⟩ (by simp) rfl
            have E32 : v 32 = .bool false := hV 32 D32
            rw [if_pos (by rw [Inv.wanted_of (b := false) rfl rfl rfl ((hin 32 _ _ rfl rfl).trans E32)]; decide)]
            have E33 : v 33 = .pointer (some ⟨p, 0, none⟩) := hV 33 D33
            exact Inv.wp_nilCheck rfl ((hin 33 _ _ rfl rfl).trans E33) (hK.out _ W ⟨HM, flow_vals hV rfl⟩)
          · intro L v W aAct hF hn hd hin hout K hK
            obtain ⟨HM, hV⟩ := hF
            have D34 : L 34 = true := hd ⟨34, Go.Ground.data⟩ (by simp) rfl
            have D32 : L 32 = true := hd ⟨32, Go.Ground.guard⟩ (by simp) rfl
            have E32 : v 32 = .bool false := hV 32 D32
            rw [if_pos (by rw [Inv.wanted_of (b := false) rfl rfl rfl ((hin 32 _ _ rfl rfl).trans E32)]; decide)]
            have E34 : v 34 = .pointer (some ⟨p, 0, none⟩) := hV 34 D34
            exact Inv.wp_fieldAddr (u := .pointer (some ⟨p, 5, none⟩)) rfl ((hin 34 _ _ rfl rfl).trans E34) (fun _ => by kernel_rfl) (hK.out _ W ⟨HM, flow_vals hV rfl⟩)
          · intro L v W aAct hF hn hd hin hout K hK
            obtain ⟨HM, hV⟩ := hF
            have D35 : L 35 = true := hd ⟨35, Go.Ground.data⟩ (by simp) rfl
            have D32 : L 32 = true := hd ⟨32, Go.Ground.guard⟩ (by simp) rfl
            have E32 : v 32 = .bool false := hV 32 D32
            rw [if_pos (by rw [Inv.wanted_of (b := false) rfl rfl rfl ((hin 32 _ _ rfl rfl).trans E32)]; decide)]
            have E35 : v 35 = .pointer (some ⟨p, 5, none⟩) := hV 35 D35
            exact Mem.wp_load_one HM rfl ((hin 35 _ _ rfl rfl).trans E35) (by kernel_rfl) (.inr (.head _)) rfl (hK.out _ W ⟨HM, flow_vals hV rfl⟩)
          · intro L v W aAct hF hn hd hin hout K hK
            obtain ⟨HM, hV⟩ := hF
            have D32 : L 32 = true := hd ⟨32, Go.Ground.guard⟩ (by simp) rfl
            have E32 : v 32 = .bool false := hV 32 D32
            rw [if_pos (by rw [Inv.wanted_of (b := false) rfl rfl rfl ((hin 32 _ _ rfl rfl).trans E32)]; decide)]
            exact Inv.wp_move (.inl rfl) ((hout 1 rfl).trans rfl) (hK.out _ W ⟨HM, flow_vals hV rfl⟩)
          · intro L v W aAct hF hn hd hin hout K hK
            obtain ⟨HM, hV⟩ := hF
            have D37 : L 37 = true := hd ⟨37, Go.Ground.data⟩ (by simp) rfl
            have D32 : L 32 = true := hd ⟨32, Go.Ground.guard⟩ (by simp) rfl
            have E32 : v 32 = .bool false := hV 32 D32
            rw [if_pos (by rw [Inv.wanted_of (b := false) rfl rfl rfl ((hin 32 _ _ rfl rfl).trans E32)]; decide)]
            have E37 : v 37 = .pointer (some ⟨q, 0, none⟩) := hV 37 D37
            exact Inv.wp_nilCheck rfl ((hin 37 _ _ rfl rfl).trans E37) (hK.out _ W ⟨HM, flow_vals hV rfl⟩)
          · intro L v W aAct hF hn hd hin hout K hK
            obtain ⟨HM, hV⟩ := hF
            have D38 : L 38 = true := hd ⟨38, Go.Ground.data⟩ (by simp) rfl
            have D32 : L 32 = true := hd ⟨32, Go.Ground.guard⟩ (by simp) rfl
            have E32 : v 32 = .bool false := hV 32 D32
            rw [if_pos (by rw [Inv.wanted_of (b := false) rfl rfl rfl ((hin 32 _ _ rfl rfl).trans E32)]; decide)]
            have E38 : v 38 = .pointer (some ⟨q, 0, none⟩) := hV 38 D38
            exact Inv.wp_fieldAddr (u := .pointer (some ⟨q, 5, none⟩)) rfl ((hin 38 _ _ rfl rfl).trans E38) (fun _ => by kernel_rfl) (hK.out _ W ⟨HM, flow_vals hV rfl⟩)
          · intro L v W aAct hF hn hd hin hout K hK
            obtain ⟨HM, hV⟩ := hF
            have D39 : L 39 = true := hd ⟨39, Go.Ground.data⟩ (by simp) rfl
            have D32 : L 32 = true := hd ⟨32, Go.Ground.guard⟩ (by simp) rfl
            have E32 : v 32 = .bool false := hV 32 D32
            rw [if_pos (by rw [Inv.wanted_of (b := false) rfl rfl rfl ((hin 32 _ _ rfl rfl).trans E32)]; decide)]
            have E39 : v 39 = .pointer (some ⟨q, 5, none⟩) := hV 39 D39
            exact Mem.wp_load_one HM rfl ((hin 39 _ _ rfl rfl).trans E39) (by kernel_rfl) (.inr (.tail _ (.head _))) rfl (hK.out _ W ⟨HM, flow_vals hV rfl⟩)
          · intro L v W aAct hF hn hd hin hout K hK
            obtain ⟨HM, hV⟩ := hF
            have D36 : L 36 = true := hd ⟨36, Go.Ground.data⟩ (by simp) rfl
            have D40 : L 40 = true := hd ⟨40, Go.Ground.data⟩ (by simp) rfl
            have D32 : L 32 = true := hd ⟨32, Go.Ground.guard⟩ (by simp) rfl
            have E32 : v 32 = .bool false := hV 32 D32
            rw [if_pos (by rw [Inv.wanted_of (b := false) rfl rfl rfl ((hin 32 _ _ rfl rfl).trans E32)]; decide)]
            have E36 : v 36 = .int .i64 f0 := hV 36 D36
            have E40 : v 40 = .int .i64 f1 := hV 40 D40
            exact Inv.wp_binop (u := .bool true) rfl ((hin 36 _ _ rfl rfl).trans E36) ((hin 40 _ _ rfl rfl).trans E40) (fun w => (run_neq_intE _ _ _ _ w).trans (by rw [n3])) (hK.out _ W ⟨HM, flow_vals hV rfl⟩)
          · intro L v W aAct hF hn hd hin hout K hK
            obtain ⟨HM, hV⟩ := hF
            have D32 : L 32 = true := hd ⟨32, Go.Ground.data⟩ (by simp) rfl
            have D41 : L 41 = true := hd ⟨41, Go.Ground.data⟩ (by simp) rfl
            rw [if_pos (by rfl)]
            have E32 : v 32 = .bool false := hV 32 D32
            have E41 : v 41 = .bool true := hV 41 D41
            exact Inv.wp_pick rfl ((hin 32 _ _ rfl rfl).trans E32) ((if_neg Bool.false_ne_true).trans ((hin 41 _ _ rfl rfl).trans E41)) (hK.out _ W ⟨HM, flow_vals hV rfl⟩)
          · intro L v W aAct hF hn hd hin hout K hK
            obtain ⟨HM, hV⟩ := hF
            have D42 : L 42 = true := hd ⟨42, Go.Ground.data⟩ (by simp) rfl
            rw [if_pos (by rfl)]
            have E42 : v 42 = .bool true := hV 42 D42
            exact Inv.wp_move (.inl rfl) ((hin 42 _ _ rfl rfl).trans E42) (hK.out _ W ⟨HM, flow_vals hV rfl⟩)
          · intro L v W aAct hF hn hd hin hout K hK
            obtain ⟨HM, hV⟩ := hF
            have D43 : L 43 = true := hd ⟨43, Go.Ground.guard⟩ (by simp) rfl
            have E43 : v 43 = .bool true := hV 43 D43
            rw [if_neg (by rw [Inv.wanted_of (b := true) rfl rfl rfl ((hin 43 _ _ rfl rfl).trans E43)]; decide)]
            exact hK.out _ W ⟨HM, flow_vals hV rfl⟩
          · intro L v W aAct hF hn hd hin hout K hK
            obtain ⟨HM, hV⟩ := hF
            have D43 : L 43 = true := hd ⟨43, Go.Ground.guard⟩ (by simp) rfl
            have E43 : v 43 = .bool true := hV 43 D43
            rw [if_neg (by rw [Inv.wanted_of (b := true) rfl rfl rfl ((hin 43 _ _ rfl rfl).trans E43)]; decide)]
            exact hK.out _ W ⟨HM, flow_vals hV rfl⟩
          · intro L v W aAct hF hn hd hin hout K hK
            obtain ⟨HM, hV⟩ := hF
            have D43 : L 43 = true := hd ⟨43, Go.Ground.guard⟩ (by simp) rfl
            have E43 : v 43 = .bool true := hV 43 D43
            rw [if_neg (by rw [Inv.wanted_of (b := true) rfl rfl rfl ((hin 43 _ _ rfl rfl).trans E43)]; decide)]
            exact hK.out _ W ⟨HM, flow_vals hV rfl⟩
          · intro L v W aAct hF hn hd hin hout K hK
            obtain ⟨HM, hV⟩ := hF
            have D43 : L 43 = true := hd ⟨43, Go.Ground.guard⟩ (by simp) rfl
            have E43 : v 43 = .bool true := hV 43 D43
            rw [if_neg (by rw [Inv.wanted_of (b := true) rfl rfl rfl ((hin 43 _ _ rfl rfl).trans E43)]; decide)]
            exact hK.out _ W ⟨HM, flow_vals hV rfl⟩
          · intro L v W aAct hF hn hd hin hout K hK
            obtain ⟨HM, hV⟩ := hF
            have D43 : L 43 = true := hd ⟨43, Go.Ground.guard⟩ (by simp) rfl
            have E43 : v 43 = .bool true := hV 43 D43
            rw [if_neg (by rw [Inv.wanted_of (b := true) rfl rfl rfl ((hin 43 _ _ rfl rfl).trans E43)]; decide)]
            exact hK.out _ W ⟨HM, flow_vals hV rfl⟩
          · intro L v W aAct hF hn hd hin hout K hK
            obtain ⟨HM, hV⟩ := hF
            have D43 : L 43 = true := hd ⟨43, Go.Ground.guard⟩ (by simp) rfl
            have E43 : v 43 = .bool true := hV 43 D43
            rw [if_neg (by rw [Inv.wanted_of (b := true) rfl rfl rfl ((hin 43 _ _ rfl rfl).trans E43)]; decide)]
            exact hK.out _ W ⟨HM, flow_vals hV rfl⟩
          · intro L v W aAct hF hn hd hin hout K hK
            obtain ⟨HM, hV⟩ := hF
            have D43 : L 43 = true := hd ⟨43, Go.Ground.guard⟩ (by simp) rfl
            have E43 : v 43 = .bool true := hV 43 D43
            rw [if_neg (by rw [Inv.wanted_of (b := true) rfl rfl rfl ((hin 43 _ _ rfl rfl).trans E43)]; decide)]
            exact hK.out _ W ⟨HM, flow_vals hV rfl⟩
          · intro L v W aAct hF hn hd hin hout K hK
            obtain ⟨HM, hV⟩ := hF
            have D43 : L 43 = true := hd ⟨43, Go.Ground.guard⟩ (by simp) rfl
            have E43 : v 43 = .bool true := hV 43 D43
            rw [if_neg (by rw [Inv.wanted_of (b := true) rfl rfl rfl ((hin 43 _ _ rfl rfl).trans E43)]; decide)]
            exact hK.out _ W ⟨HM, flow_vals hV rfl⟩
          · intro L v W aAct hF hn hd hin hout K hK
            obtain ⟨HM, hV⟩ := hF
            have D43 : L 43 = true := hd ⟨43, Go.Ground.chain⟩ (by simp) rfl
            have E43 : v 43 = .bool true := hV 43 D43
            rw [if_neg (by rw [Inv.wanted_of (b := true) rfl rfl rfl ((hin 43 _ _ rfl rfl).trans E43)]; decide)]
            exact hK.out _ W ⟨HM, flow_vals hV rfl⟩
          · intro L v W aAct hF hn hd hin hout K hK
            obtain ⟨HM, hV⟩ := hF
            have D43 : L 43 = true := hd ⟨43, Go.Ground.guard⟩ (by simp) rfl
            have E43 : v 43 = .bool true := hV 43 D43
            rw [if_neg (by rw [Inv.wanted_of (b := true) rfl rfl rfl ((hin 43 _ _ rfl rfl).trans E43)]; decide)]
            exact hK.out _ W ⟨HM, flow_vals hV rfl⟩
          · intro L v W aAct hF hn hd hin hout K hK
            obtain ⟨HM, hV⟩ := hF
            have D43 : L 43 = true := hd ⟨43, Go.Ground.data⟩ (by simp) rfl
            rw [if_pos (by rfl)]
            have E43 : v 43 = .bool true := hV 43 D43
            exact Inv.wp_pick rfl ((hin 43 _ _ rfl rfl).trans E43) ((if_pos rfl).trans rfl) (hK.out _ W ⟨HM, flow_vals hV rfl⟩)
          · intro L v W aAct hF hn hd hin hout K hK
            obtain ⟨HM, hV⟩ := hF
            have D54 : L 54 = true := hd ⟨54, Go.Ground.data⟩ (by simp) rfl
            rw [if_pos (by rfl)]
            have E54 : v 54 = .bool true := hV 54 D54
            exact Inv.wp_move (.inl rfl) ((hin 54 _ _ rfl rfl).trans E54) (hK.out _ W ⟨HM, flow_vals hV rfl⟩)
          · intro L v W aAct hF hn hd hin hout K hK
            obtain ⟨HM, hV⟩ := hF
            have D55 : L 55 = true := hd ⟨55, Go.Ground.guard⟩ (by simp) rfl
            have E55 : v 55 = .bool true := hV 55 D55
            rw [if_neg (by rw [Inv.wanted_of (b := true) rfl rfl rfl ((hin 55 _ _ rfl rfl).trans E55)]; decide)]
            exact hK.out _ W ⟨HM, flow_vals hV rfl⟩
          · intro L v W aAct hF hn hd hin hout K hK
            obtain ⟨HM, hV⟩ := hF
            have D55 : L 55 = true := hd ⟨55, Go.Ground.guard⟩ (by simp) rfl
            have E55 : v 55 = .bool true := hV 55 D55
            rw [if_neg (by rw [Inv.wanted_of (b := true) rfl rfl rfl ((hin 55 _ _ rfl rfl).trans E55)]; decide)]
            exact hK.out _ W ⟨HM, flow_vals hV rfl⟩
          · intro L v W aAct hF hn hd hin hout K hK
            obtain ⟨HM, hV⟩ := hF
            have D55 : L 55 = true := hd ⟨55, Go.Ground.guard⟩ (by simp) rfl
            have E55 : v 55 = .bool true := hV 55 D55
            rw [if_neg (by rw [Inv.wanted_of (b := true) rfl rfl rfl ((hin 55 _ _ rfl rfl).trans E55)]; decide)]
            exact hK.out _ W ⟨HM, flow_vals hV rfl⟩
          · intro L v W aAct hF hn hd hin hout K hK
            obtain ⟨HM, hV⟩ := hF
            have D55 : L 55 = true := hd ⟨55, Go.Ground.guard⟩ (by simp) rfl
            have E55 : v 55 = .bool true := hV 55 D55
            rw [if_neg (by rw [Inv.wanted_of (b := true) rfl rfl rfl ((hin 55 _ _ rfl rfl).trans E55)]; decide)]
            exact hK.out _ W ⟨HM, flow_vals hV rfl⟩
          · intro L v W aAct hF hn hd hin hout K hK
            obtain ⟨HM, hV⟩ := hF
            have D55 : L 55 = true := hd ⟨55, Go.Ground.guard⟩ (by simp) rfl
            have E55 : v 55 = .bool true := hV 55 D55
            rw [if_neg (by rw [Inv.wanted_of (b := true) rfl rfl rfl ((hin 55 _ _ rfl rfl).trans E55)]; decide)]
            exact hK.out _ W ⟨HM, flow_vals hV rfl⟩
          · intro L v W aAct hF hn hd hin hout K hK
            obtain ⟨HM, hV⟩ := hF
            have D55 : L 55 = true := hd ⟨55, Go.Ground.guard⟩ (by simp) rfl
            have E55 : v 55 = .bool true := hV 55 D55
            rw [if_neg (by rw [Inv.wanted_of (b := true) rfl rfl rfl ((hin 55 _ _ rfl rfl).trans E55)]; decide)]
            exact hK.out _ W ⟨HM, flow_vals hV rfl⟩
          · intro L v W aAct hF hn hd hin hout K hK
            obtain ⟨HM, hV⟩ := hF
            have D55 : L 55 = true := hd ⟨55, Go.Ground.guard⟩ (by simp) rfl
            have E55 : v 55 = .bool true := hV 55 D55
            rw [if_neg (by rw [Inv.wanted_of (b := true) rfl rfl rfl ((hin 55 _ _ rfl rfl).trans E55)]; decide)]
            exact hK.out _ W ⟨HM, flow_vals hV rfl⟩
          · intro L v W aAct hF hn hd hin hout K hK
            obtain ⟨HM, hV⟩ := hF
            have D55 : L 55 = true := hd ⟨55, Go.Ground.guard⟩ (by simp) rfl
            have E55 : v 55 = .bool true := hV 55 D55
            rw [if_neg (by rw [Inv.wanted_of (b := true) rfl rfl rfl ((hin 55 _ _ rfl rfl).trans E55)]; decide)]
            exact hK.out _ W ⟨HM, flow_vals hV rfl⟩
          · intro L v W aAct hF hn hd hin hout K hK
            obtain ⟨HM, hV⟩ := hF
            have D55 : L 55 = true := hd ⟨55, Go.Ground.guard⟩ (by simp) rfl
            have E55 : v 55 = .bool true := hV 55 D55
            rw [if_neg (by rw [Inv.wanted_of (b := true) rfl rfl rfl ((hin 55 _ _ rfl rfl).trans E55)]; decide)]
            exact hK.out _ W ⟨HM, flow_vals hV rfl⟩
          · intro L v W aAct hF hn hd hin hout K hK
            obtain ⟨HM, hV⟩ := hF
            have D55 : L 55 = true := hd ⟨55, Go.Ground.guard⟩ (by simp) rfl
            have E55 : v 55 = .bool true := hV 55 D55
            rw [if_neg (by rw [Inv.wanted_of (b := true) rfl rfl rfl ((hin 55 _ _ rfl rfl).trans E55)]; decide)]
            exact hK.out _ W ⟨HM, flow_vals hV rfl⟩
          · intro L v W aAct hF hn hd hin hout K hK
            obtain ⟨HM, hV⟩ := hF
            have D55 : L 55 = true := hd ⟨55, Go.Ground.guard⟩ (by simp) rfl
            have E55 : v 55 = .bool true := hV 55 D55
            rw [if_neg (by rw [Inv.wanted_of (b := true) rfl rfl rfl ((hin 55 _ _ rfl rfl).trans E55)]; decide)]
            exact hK.out _ W ⟨HM, flow_vals hV rfl⟩
          · intro L v W aAct hF hn hd hin hout K hK
            obtain ⟨HM, hV⟩ := hF
            have D55 : L 55 = true := hd ⟨55, Go.Ground.data⟩ (by simp) rfl
            rw [if_pos (by rfl)]
            have E55 : v 55 = .bool true := hV 55 D55
            exact Inv.wp_pick rfl ((hin 55 _ _ rfl rfl).trans E55) ((if_pos rfl).trans rfl) (hK.out _ W ⟨HM, flow_vals hV rfl⟩)
          clear HM
          intro L v W2 hL hF
          obtain ⟨HM, hV⟩ := hF
          have E67 : v 67 = .bool true := hV 67 (hL 67 rfl)
          simp only [Inv.putAll, List.append, Act.put, List.setIfInBounds_toArray, List.set_cons_zero, List.set_cons_succ, E67]
          clear hV hL E67
          obtain ⟨W, hWW⟩ : ∃ W, W = W2 := ⟨_, rfl⟩; subst hWW
          go_wp2_with fail
          simp [bodyPost, results, Try.results16, go_sem]
          exact ⟨_, rfl, by rw [HR.out]; exact rfl, HM.below⟩
        · skip
          cases b4 : sameH h0 h1
          · have HP2 : Aside (∀ w, Calls Try.prog 34 #[.agg #[.float .f32 a0.1, .float .f32 a0.2.1, .float .f32 a0.2.2], .agg #[.float .f32 a1.1, .float .f32 a1.2.1, .float .f32 a1.2.2]] w (Gives (isB true) w)) := by
              have HP : ∀ w, Calls Try.prog 34 #[.agg #[.float .f32 a0.1, .float .f32 a0.2.1, .float .f32 a0.2.2], .agg #[.float .f32 a1.1, .float .f32 a1.2.1, .float .f32 a1.2.2]] w (Gives (isB (sameT a0 a1)) w) := fun w => l01SamePoint_any a0.1 a0.2.1 a0.2.2 a1.1 a1.2.1 a1.2.2 w
              rw [b1] at HP
              exact HP
            have HN2 : Aside (∀ w, Calls Try.prog 35 #[.float .f32 h0, .float .f32 h1] w (Gives (isB false) w)) := fun w => (l01Same_any h0 h1 w).mono fun e w2 ⟨v, he, hv, hw⟩ => ⟨v, he, by rw [← b4]; exact hv, by rw [hw]; exact Below.refl _ _⟩
            have n0 : (k0 != k1) = false := by simp only [bne, b0, Bool.not_true, Bool.not_false]
            have n2 : (s0 != s1) = false := by simp only [bne, b2, Bool.not_true, Bool.not_false]
            have n3 : (f0 != f1) = false := by simp only [bne, b3, Bool.not_true, Bool.not_false]
            have HR : Aside (sameC k0 k1 a0 a1 s0 s1 f0 f1 h0 h1 z0 z1 = false) := by show sameC k0 k1 a0 a1 s0 s1 f0 f1 h0 h1 z0 z1 = false; unfold sameC; simp only [b0, b1, b2, b3, b4, Bool.true_and, Bool.false_and, Bool.and_false, Bool.and_self]
            go_enter Try.func16, Try.ntmps16
            go_wp2_with fail
            refine Inv.wp_region_flow (F := fun L v W => Mem w W [(p, [.int .i8 k0, .float .f32 a0.1, .float .f32 a0.2.1, .float .f32 a0.2.2, .int .i64 s0, .int .i64 f0, .float .f32 h0, .slice x0 z0.length y0]), (q, [.int .i8 k1, .float .f32 a1.1, .float .f32 a1.2.1, .float .f32 a1.2.2, .int .i64 s1, .int .i64 f1, .float .f32 h1, .slice x1 z1.length y1])] [] ∧ ∀ j, L j = true → v j = ([.pointer (some ⟨p, 0, none⟩), .pointer (some ⟨p, 0, none⟩), .pointer (some ⟨p, 0, none⟩), .int .i8 k0, .pointer (some ⟨q, 0, none⟩), .pointer (some ⟨q, 0, none⟩), .pointer (some ⟨q, 0, none⟩), .int .i8 k1, .bool false, .bool false, .pointer (some ⟨p, 0, none⟩), .pointer (some ⟨p, 0, none⟩), .pointer (some ⟨p, 1, none⟩), .agg #[.float .f32 a0.1, .float .f32 a0.2.1, .float .f32 a0.2.2], .pointer (some ⟨q, 0, none⟩), .pointer (some ⟨q, 0, none⟩), .pointer (some ⟨q, 1, none⟩), .agg #[.float .f32 a1.1, .float .f32 a1.2.1, .float .f32 a1.2.2], .bool true, .bool false, .bool false, .bool false, .pointer (some ⟨p, 0, none⟩), .pointer (some ⟨p, 0, none⟩), .pointer (some ⟨p, 4, none⟩), .int .i64 s0, .pointer (some ⟨q, 0, none⟩), .pointer (some ⟨q, 0, none⟩), .pointer (some ⟨q, 4, none⟩), .int .i64 s1, .bool false, .bool false, .bool false, .pointer (some ⟨p, 0, none⟩), .pointer (some ⟨p, 0, none⟩), .pointer (some ⟨p, 5, none⟩), .int .i64 f0, .pointer (some ⟨q, 0, none⟩), .pointer (some ⟨q, 0, none⟩), .pointer (some ⟨q, 5, none⟩), .int .i64 f1, .bool false, .bool false, .bool false, .pointer (some ⟨p, 0, none⟩), .pointer (some ⟨p, 0, none⟩), .pointer (some ⟨p, 6, none⟩), .float .f32 h0, .pointer (some ⟨q, 0, none⟩), .pointer (some ⟨q, 0, none⟩), .pointer (some ⟨q, 6, none⟩), .float .f32 h1, .bool false, .bool true, .bool true, .bool true, undef, undef, undef, undef, undef, undef, undef, undef, undef, undef, undef, .bool true] : List Value).getD j undef) (by kernel_rfl) (by kernel_rfl) (by kernel_rfl) (fun v => ⟨HM.drew, fun j h => absurd h Bool.false_ne_true⟩) ⟨?_, ?_, ?_, ?_, ?_, ?_, ?_, ?_, ?_, ?_, ?_, ?_, ?_, ?_, ?_, ?_, ?_, ?_, ?_, ?_, ?_, ?_, ?_, ?_, ?_, ?_, ?_, ?_, ?_, ?_, ?_, ?_, ?_, ?_, ?_, ?_, ?_, ?_, ?_, ?_, ?_, ?_, ?_, ?_, ?_, ?_, ?_, ?_, ?_, ?_, ?_, ?_, ?_, ?_, ?_, ?_, ?_, ?_, ?_, ?_, ?_, ?_, ?_, ?_, ?_, ?_, ?_, ?_, trivial⟩ ?_
            · intro L v W aAct hF hn hd hin hout K hK
              obtain ⟨HM, hV⟩ := hF
              rw [if_pos (by rfl)]
              exact Inv.wp_move (.inl rfl) ((hout 0 rfl).trans rfl) (hK.out _ W ⟨HM, flow_vals hV rfl⟩)
            · intro L v W aAct hF hn hd hin hout K hK
              obtain ⟨HM, hV⟩ := hF
              have D0 : L 0 = true := hd ⟨0, Go.Ground.data⟩ (by simp) rfl
              rw [if_pos (by rfl)]
              have E0 : v 0 = .pointer (some ⟨p, 0, none⟩) := hV 0 D0
              exact Inv.wp_nilCheck rfl ((hin 0 _ _ rfl rfl).trans E0) (hK.out _ W ⟨HM, flow_vals hV rfl⟩)
            · intro L v W aAct hF hn hd hin hout K hK
              obtain ⟨HM, hV⟩ := hF
              have D1 : L 1 = true := hd ⟨1, Go.Ground.data⟩ (by simp) rfl
              rw [if_pos (by rfl)]
              have E1 : v 1 = .pointer (some ⟨p, 0, none⟩) := hV 1 D1
              exact Inv.wp_fieldAddr (u := .pointer (some ⟨p, 0, none⟩)) rfl ((hin 1 _ _ rfl rfl).trans E1) (fun _ => by kernel_rfl) (hK.out _ W ⟨HM, flow_vals hV rfl⟩)
            · intro L v W aAct hF hn hd hin hout K hK
              obtain ⟨HM, hV⟩ := hF
              have D2 : L 2 = true := hd ⟨2, Go.Ground.data⟩ (by simp) rfl
              rw [if_pos (by rfl)]
              have E2 : v 2 = .pointer (some ⟨p, 0, none⟩) := hV 2 D2
              exact Mem.wp_load_one HM rfl ((hin 2 _ _ rfl rfl).trans E2) (by kernel_rfl) (.inr (.head _)) rfl (hK.out _ W ⟨HM, flow_vals hV rfl⟩)
            · intro L v W aAct hF hn hd hin hout K hK
              obtain ⟨HM, hV⟩ := hF
              rw [if_pos (by rfl)]
              exact Inv.wp_move (.inl rfl) ((hout 1 rfl).trans rfl) (hK.out _ W ⟨HM, flow_vals hV rfl⟩)
            · intro L v W aAct hF hn hd hin hout K hK
              obtain ⟨HM, hV⟩ := hF
              have D4 : L 4 = true := hd ⟨4, Go.Ground.data⟩ (by simp) rfl
              rw [if_pos (by rfl)]
              have E4 : v 4 = .pointer (some ⟨q, 0, none⟩) := hV 4 D4
              exact Inv.wp_nilCheck rfl ((hin 4 _ _ rfl rfl).trans E4) (hK.out _ W ⟨HM, flow_vals hV rfl⟩)
            · intro L v W aAct hF hn hd hin hout K hK
              obtain ⟨HM, hV⟩ := hF
              have D5 : L 5 = true := hd ⟨5, Go.Ground.data⟩ (by simp) rfl
              rw [if_pos (by rfl)]
              have E5 : v 5 = .pointer (some ⟨q, 0, none⟩) := hV 5 D5
              exact Inv.wp_fieldAddr (u := .pointer (some ⟨q, 0, none⟩)) rfl ((hin 5 _ _ rfl rfl).trans E5) (fun _ => by kernel_rfl) (hK.out _ W ⟨HM, flow_vals hV rfl⟩)
            · intro L v W aAct hF hn hd hin hout K hK
              obtain ⟨HM, hV⟩ := hF
              have D6 : L 6 = true := hd ⟨6, Go.Ground.data⟩ (by simp) rfl
              rw [if_pos (by rfl)]
              have E6 : v 6 = .pointer (some ⟨q, 0, none⟩) := hV 6 D6
              exact Mem.wp_load_one HM rfl ((hin 6 _ _ rfl rfl).trans E6) (by kernel_rfl) (.inr (.tail _ (.head _))) rfl (hK.out _ W ⟨HM, flow_vals hV rfl⟩)
            · intro L v W aAct hF hn hd hin hout K hK
              obtain ⟨HM, hV⟩ := hF
              have D3 : L 3 = true := hd ⟨3, Go.Ground.data⟩ (by simp) rfl
              have D7 : L 7 = true := hd ⟨7, Go.Ground.data⟩ (by simp) rfl
              rw [if_pos (by rfl)]
              have E3 : v 3 = .int .i8 k0 := hV 3 D3
              have E7 : v 7 = .int .i8 k1 := hV 7 D7
              exact Inv.wp_binop (u := .bool false) rfl ((hin 3 _ _ rfl rfl).trans E3) ((hin 7 _ _ rfl rfl).trans E7) (fun w => (run_neq_intE _ _ _ _ w).trans (by rw [n0])) (hK.out _ W ⟨HM, flow_vals hV rfl⟩)
            · intro L v W aAct hF hn hd hin hout K hK
              obtain ⟨HM, hV⟩ := hF
              have D8 : L 8 = true := hd ⟨8, Go.Ground.data⟩ (by simp) rfl
              rw [if_pos (by rfl)]
              have E8 : v 8 = .bool false := hV 8 D8
              exact Inv.wp_move (.inl rfl) ((hin 8 _ _ rfl rfl).trans E8) (hK.out _ W ⟨HM, flow_vals hV rfl⟩)
            · intro L v W aAct hF hn hd hin hout K hK
              obtain ⟨HM, hV⟩ := hF
              have D9 : L 9 = true := hd ⟨9, Go.Ground.guard⟩ (by simp) rfl
              have E9 : v 9 = .bool false := hV 9 D9
              rw [if_pos (by rw [Inv.wanted_of (b := false) rfl rfl rfl ((hin 9 _ _ rfl rfl).trans E9)]; decide)]
              exact Inv.wp_move (.inl rfl) ((hout 0 rfl).trans rfl) (hK.out _ W ⟨HM, flow_vals hV rfl⟩)
            · intro L v W aAct hF hn hd hin hout K hK
              obtain ⟨HM, hV⟩ := hF
              have D10 : L 10 = true := hd ⟨10, Go.Ground.data⟩ (by simp) rfl
              have D9 : L 9 = true := hd ⟨9, Go.Ground.guard⟩ (by simp) rfl
              have E9 : v 9 = .bool false := hV 9 D9
              rw [if_pos (by rw [Inv.wanted_of (b := false) rfl rfl rfl ((hin 9 _ _ rfl rfl).trans E9)]; decide)]
              have E10 : v 10 = .pointer (some ⟨p, 0, none⟩) := hV 10 D10
              exact Inv.wp_nilCheck rfl ((hin 10 _ _ rfl rfl).trans E10) (hK.out _ W ⟨HM, flow_vals hV rfl⟩)
            · intro L v W aAct hF hn hd hin hout K hK
              obtain ⟨HM, hV⟩ := hF
              have D11 : L 11 = true := hd ⟨11, Go.Ground.data⟩ (by simp) rfl
              have D9 : L 9 = true := hd ⟨9, Go.Ground.guard⟩ (by simp) rfl
              have E9 : v 9 = .bool false := hV 9 D9
              rw [if_pos (by rw [Inv.wanted_of (b := false) rfl rfl rfl ((hin 9 _ _ rfl rfl).trans E9)]; decide)]
              have E11 : v 11 = .pointer (some ⟨p, 0, none⟩) := hV 11 D11
              exact Inv.wp_fieldAddr (u := .pointer (some ⟨p, 1, none⟩)) rfl ((hin 11 _ _ rfl rfl).trans E11) (fun _ => by kernel_rfl) (hK.out _ W ⟨HM, flow_vals hV rfl⟩)
            · intro L v W aAct hF hn hd hin hout K hK
              obtain ⟨HM, hV⟩ := hF
              have D12 : L 12 = true := hd ⟨12, Go.Ground.data⟩ (by simp) rfl
              have D9 : L 9 = true := hd ⟨9, Go.Ground.guard⟩ (by simp) rfl
              have E9 : v 9 = .bool false := hV 9 D9
              rw [if_pos (by rw [Inv.wanted_of (b := false) rfl rfl rfl ((hin 9 _ _ rfl rfl).trans E9)]; decide)]
              have E12 : v 12 = .pointer (some ⟨p, 1, none⟩) := hV 12 D12
              exact Mem.wp_load_row HM 3 rfl ((hin 12 _ _ rfl rfl).trans E12) (by kernel_rfl) (.inr (.head _)) rfl rfl (hK.out _ W ⟨HM, flow_vals hV rfl⟩)
            · intro L v W aAct hF hn hd hin hout K hK
              obtain ⟨HM, hV⟩ := hF
              have D9 : L 9 = true := hd ⟨9, Go.Ground.guard⟩ (by simp) rfl
              have E9 : v 9 = .bool false := hV 9 D9
              rw [if_pos (by rw [Inv.wanted_of (b := false) rfl rfl rfl ((hin 9 _ _ rfl rfl).trans E9)]; decide)]
              exact Inv.wp_move (.inl rfl) ((hout 1 rfl).trans rfl) (hK.out _ W ⟨HM, flow_vals hV rfl⟩)
            · intro L v W aAct hF hn hd hin hout K hK
              obtain ⟨HM, hV⟩ := hF
              have D14 : L 14 = true := hd ⟨14, Go.Ground.data⟩ (by simp) rfl
              have D9 : L 9 = true := hd ⟨9, Go.Ground.guard⟩ (by simp) rfl
              have E9 : v 9 = .bool false := hV 9 D9
              rw [if_pos (by rw [Inv.wanted_of (b := false) rfl rfl rfl ((hin 9 _ _ rfl rfl).trans E9)]; decide)]
              have E14 : v 14 = .pointer (some ⟨q, 0, none⟩) := hV 14 D14
              exact Inv.wp_nilCheck rfl ((hin 14 _ _ rfl rfl).trans E14) (hK.out _ W ⟨HM, flow_vals hV rfl⟩)
            · intro L v W aAct hF hn hd hin hout K hK
              obtain ⟨HM, hV⟩ := hF
              have D15 : L 15 = true := hd ⟨15, Go.Ground.data⟩ (by simp) rfl
              have D9 : L 9 = true := hd ⟨9, Go.Ground.guard⟩ (by simp) rfl
              have E9 : v 9 = .bool false := hV 9 D9
              rw [if_pos (by rw [Inv.wanted_of (b := false) rfl rfl rfl ((hin 9 _ _ rfl rfl).trans E9)]; decide)]
              have E15 : v 15 = .pointer (some ⟨q, 0, none⟩) := hV 15 D15
              exact Inv.wp_fieldAddr (u := .pointer (some ⟨q, 1, none⟩)) rfl ((hin 15 _ _ rfl rfl).trans E15) (fun _ => by kernel_rfl) (hK.out _ W ⟨HM, flow_vals hV rfl⟩)
            · intro L v W aAct hF hn hd hin hout K hK
              obtain ⟨HM, hV⟩ := hF
              have D16 : L 16 = true := hd ⟨16, Go.Ground.data⟩ (by simp) rfl
              have D9 : L 9 = true := hd ⟨9, Go.Ground.guard⟩ (by simp) rfl
              have E9 : v 9 = .bool false := hV 9 D9
              rw [if_pos (by rw [Inv.wanted_of (b := false) rfl rfl rfl ((hin 9 _ _ rfl rfl).trans E9)]; decide)]
              have E16 : v 16 = .pointer (some ⟨q, 1, none⟩) := hV 16 D16
              exact Mem.wp_load_row HM 3 rfl ((hin 16 _ _ rfl rfl).trans E16) (by kernel_rfl) (.inr (.tail _ (.head _))) rfl rfl (hK.out _ W ⟨HM, flow_vals hV rfl⟩)
            · intro L v W aAct hF hn hd hin hout K hK
              obtain ⟨HM, hV⟩ := hF
              have D13 : L 13 = true := hd ⟨13, Go.Ground.data⟩ (by simp) rfl
              have D17 : L 17 = true := hd ⟨17, Go.Ground.data⟩ (by simp) rfl
              have D9 : L 9 = true := hd ⟨9, Go.Ground.chain⟩ (by simp) rfl
              have E9 : v 9 = .bool false := hV 9 D9
              rw [if_pos (by rw [Inv.wanted_of (b := false) rfl rfl rfl ((hin 9 _ _ rfl rfl).trans E9)]; decide)]
              have E13 : v 13 = .agg #[.float .f32 a0.1, .float .f32 a0.2.1, .float .f32 a0.2.2] := hV 13 D13
              have E17 : v 17 = .agg #[.float .f32 a1.1, .float .f32 a1.2.1, .float .f32 a1.2.2] := hV 17 D17
              refine Inv.wp_call rfl rfl rfl #[.agg #[.float .f32 a0.1, .float .f32 a0.2.1, .float .f32 a0.2.2], .agg #[.float .f32 a1.1, .float .f32 a1.2.1, .float .f32 a1.2.2]] (by simp only [List.map_toArray, List.map_cons, List.map_nil, ((hin 13 _ _ rfl rfl).trans E13), ((hin 17 _ _ rfl rfl).trans E17)]) (by kernel_rfl) ((HP2.out _).mono ?_)
              rintro e W' ⟨_, rfl, rfl, hb⟩
              exact ⟨_, rfl, hK.out _ W' ⟨(HM.call hb), flow_vals hV rfl⟩⟩
            · intro L v W aAct hF hn hd hin hout K hK
              obtain ⟨HM, hV⟩ := hF
              have D18 : L 18 = true := hd ⟨18, Go.Ground.data⟩ (by simp) rfl
              have D9 : L 9 = true := hd ⟨9, Go.Ground.guard⟩ (by simp) rfl
              have E9 : v 9 = .bool false := hV 9 D9
              rw [if_pos (by rw [Inv.wanted_of (b := false) rfl rfl rfl ((hin 9 _ _ rfl rfl).trans E9)]; decide)]
              have E18 : v 18 = .bool true := hV 18 D18
              exact Inv.wp_unop (u := .bool false) rfl ((hin 18 _ _ rfl rfl).trans E18) (fun _ => rfl) (hK.out _ W ⟨HM, flow_vals hV rfl⟩)
            · intro L v W aAct hF hn hd hin hout K hK
              obtain ⟨HM, hV⟩ := hF
              have D9 : L 9 = true := hd ⟨9, Go.Ground.data⟩ (by simp) rfl
              have D19 : L 19 = true := hd ⟨19, Go.Ground.data⟩ (by simp) rfl
              rw [if_pos (by rfl)]
              have E9 : v 9 = .bool false := hV 9 D9
              have E19 : v 19 = .bool false := hV 19 D19
              exact Inv.wp_pick rfl ((hin 9 _ _ rfl rfl).trans E9) ((if_neg Bool.false_ne_true).trans ((hin 19 _ _ rfl rfl).trans E19)) (hK.out _ W ⟨HM, flow_vals hV rfl⟩)
            · intro L v W aAct hF hn hd hin hout K hK
              obtain ⟨HM, hV⟩ := hF
              have D20 : L 20 = true := hd ⟨20, Go.Ground.data⟩ (by simp) rfl
              rw [if_pos (by rfl)]
              have E20 : v 20 = .bool false := hV 20 D20
              exact Inv.wp_move (.inl rfl) ((hin 20 _ _ rfl rfl).trans E20) (hK.out _ W ⟨HM, flow_vals hV rfl⟩)
            · intro L v W aAct hF hn hd hin hout K hK
              obtain ⟨HM, hV⟩ := hF
              have D21 : L 21 = true := hd ⟨21, Go.Ground.guard⟩ (by simp) rfl
              have E21 : v 21 = .bool false := hV 21 D21
              rw [if_pos (by rw [Inv.wanted_of (b := false) rfl rfl rfl ((hin 21 _ _ rfl rfl).trans E21)]; decide)]
              exact Inv.wp_move (.inl rfl) ((hout 0 rfl).trans rfl) (hK.out _ W ⟨HM, flow_vals hV rfl⟩)
            · intro L v W aAct hF hn hd hin hout K hK
              obtain ⟨HM, hV⟩ := hF
              have D22 : L 22 = true := hd ⟨22, Go.Ground.data⟩ (by simp) rfl
              have D21 : L 21 = true := hd ⟨21, Go.Ground.guard⟩ (by simp) rfl
              have E21 : v 21 = .bool false := hV 21 D21
              rw [if_pos (by rw [Inv.wanted_of (b := false) rfl rfl rfl ((hin 21 _ _ rfl rfl).trans E21)]; decide)]
              have E22 : v 22 = .pointer (some ⟨p, 0, none⟩) := hV 22 D22
              exact Inv.wp_nilCheck rfl ((hin 22 _ _ rfl rfl).trans E22) (hK.out _ W ⟨HM, flow_vals hV rfl⟩)
            · intro L v W aAct hF hn hd hin hout K hK
              obtain ⟨HM, hV⟩ := hF
              have D23 : L 23 = true := hd ⟨23, Go.Ground.data⟩ (by simp) rfl
              have D21 : L 21 = true := hd ⟨21, Go.Ground.guard⟩ (by simp) rfl
              have E21 : v 21 = .bool false := hV 21 D21
              rw [if_pos (by rw [Inv.wanted_of (b := false) rfl rfl rfl ((hin 21 _ _ rfl rfl).trans E21)]; decide)]
              have E23 : v 23 = .pointer (some ⟨p, 0, none⟩) := hV 23 D23
              exact Inv.wp_fieldAddr (u := .pointer (some ⟨p, 4, none⟩)) rfl ((hin 23 _ _ rfl rfl).trans E23) (fun _ => by kernel_rfl) (hK.out _ W ⟨HM, flow_vals hV rfl⟩)
            · intro L v W aAct hF hn hd hin hout K hK
              obtain ⟨HM, hV⟩ := hF
              have D24 : L 24 = true := hd ⟨24, Go.Ground.data⟩ (by simp) rfl
              have D21 : L 21 = true := hd ⟨21, Go.Ground.guard⟩ (by simp) rfl
              have E21 : v 21 = .bool false := hV 21 D21
              rw [if_pos (by rw [Inv.wanted_of (b := false) rfl rfl rfl ((hin 21 _ _ rfl rfl).trans E21)]; decide)]
              have E24 : v 24 = .pointer (some ⟨p, 4, none⟩) := hV 24 D24
              exact Mem.wp_load_one HM rfl ((hin 24 _ _ rfl rfl).trans E24) (by kernel_rfl) (.inr (.head _)) rfl (hK.out _ W ⟨HM, flow_vals hV rfl⟩)
            · intro L v W aAct hF hn hd hin hout K hK
              obtain ⟨HM, hV⟩ := hF
              have D21 : L 21 = true := hd ⟨21, Go.Ground.guard⟩ (by simp) rfl
              have E21 : v 21 = .bool false := hV 21 D21
              rw [if_pos (by rw [Inv.wanted_of (b := false) rfl rfl rfl ((hin 21 _ _ rfl rfl).trans E21)]; decide)]
              exact Inv.wp_move (.inl rfl) ((hout 1 rfl).trans rfl) (hK.out _ W ⟨HM, flow_vals hV rfl⟩)
            · intro L v W aAct hF hn hd hin hout K hK
              obtain ⟨HM, hV⟩ := hF
              have D26 : L 26 = true := hd ⟨26, Go.Ground.data⟩ (by simp) rfl
              have D21 : L 21 = true := hd ⟨21, Go.Ground.guard⟩ (by simp) rfl
              have E21 : v 21 = .bool false := hV 21 D21
              rw [if_pos (by rw [Inv.wanted_of (b := false) rfl rfl rfl ((hin 21 _ _ rfl rfl).trans E21)]; decide)]
              have E26 : v 26 = .pointer (some ⟨q, 0, none⟩) := hV 26 D26
              exact Inv.wp_nilCheck rfl ((hin 26 _ _ rfl rfl).trans E26) (hK.out _ W ⟨HM, flow_vals hV rfl⟩)
            · intro L v W aAct hF hn hd hin hout K hK
              obtain ⟨HM, hV⟩ := hF
              have D27 : L 27 = true := hd ⟨27, Go.Ground.data⟩ (by simp) rfl
              have D21 : L 21 = true := hd ⟨21, Go.Ground.guard⟩ (by simp) rfl
              have E21 : v 21 = .bool false := hV 21 D21
              rw [if_pos (by rw [Inv.wanted_of (b := false) rfl rfl rfl ((hin 21 _ _ rfl rfl).trans E21)]; decide)]
              have E27 : v 27 = .pointer (some ⟨q, 0, none⟩) := hV 27 D27
              exact Inv.wp_fieldAddr (u := .pointer (some ⟨q, 4, none⟩)) rfl ((hin 27 _ _ rfl rfl).trans E27) (fun _ => by kernel_rfl) (hK.out _ W ⟨HM, flow_vals hV rfl⟩)
            · intro L v W aAct hF hn hd hin hout K hK
              obtain ⟨HM, hV⟩ := hF
              have D28 : L 28 = true := hd ⟨28, Go.Ground.data⟩ (by simp) rfl
              have D21 : L 21 = true := hd ⟨21, Go.Ground.guard⟩ (by simp) rfl
              have E21 : v 21 = .bool false := hV 21 D21
              rw [if_pos (by rw [Inv.wanted_of (b := false) rfl rfl rfl ((hin 21 _ _ rfl rfl).trans E21)]; decide)]
              have E28 : v 28 = .pointer (some ⟨q, 4, none⟩) := hV 28 D28
              exact Mem.wp_load_one HM rfl ((hin 28 _ _ rfl rfl).trans E28) (by kernel_rfl) (.inr (.tail _ (.head _))) rfl (hK.out _ W ⟨HM, flow_vals hV rfl⟩)
            · intro L v W aAct hF hn hd hin hout K hK
              obtain ⟨HM, hV⟩ := hF
              have D25 : L 25 = true := hd ⟨25, Go.Ground.data⟩ (by simp) rfl
              have D29 : L 29 = true := hd ⟨29, Go.Ground.data⟩ (by simp) rfl
              have D21 : L 21 = true := hd ⟨21, Go.Ground.guard⟩ (by simp) rfl
              have E21 : v 21 = .bool false := hV 21 D21
              rw [if_pos (by rw [Inv.wanted_of (b := false) rfl rfl rfl ((hin 21 _ _ rfl rfl).trans E21)]; decide)]
              have E25 : v 25 = .int .i64 s0 := hV 25 D25
              have E29 : v 29 = .int .i64 s1 := hV 29 D29
              exact Inv.wp_binop (u := .bool false) rfl ((hin 25 _ _ rfl rfl).trans E25) ((hin 29 _ _ rfl rfl).trans E29) (fun w => (run_neq_intE _ _ _ _ w).trans (by rw [n2])) (hK.out _ W ⟨HM, flow_vals hV rfl⟩)
            · intro L v W aAct hF hn hd hin hout K hK
              obtain ⟨HM, hV⟩ := hF
              have D21 : L 21 = true := hd ⟨21, Go.Ground.data⟩ (by simp) rfl
              have D30 : L 30 = true := hd ⟨30, Go.Ground.data⟩ (by simp) rfl
              rw [if_pos (by rfl)]
              have E21 : v 21 = .bool false := hV 21 D21
              have E30 : v 30 = .bool false := hV 30 D30
              exact Inv.wp_pick rfl ((hin 21 _ _ rfl rfl).trans E21) ((if_neg Bool.false_ne_true).trans ((hin 30 _ _ rfl rfl).trans E30)) (hK.out _ W ⟨HM, flow_vals hV rfl⟩)
            · intro L v W aAct hF hn hd hin hout K hK
              obtain ⟨HM, hV⟩ := hF
              have D31 : L 31 = true := hd ⟨31, Go.Ground.data⟩ (by simp) rfl
              rw [if_pos (by rfl)]
              have E31 : v 31 = .bool false := hV 31 D31
              exact Inv.wp_move (.inl rfl) ((hin 31 _ _ rfl rfl).trans E31) (hK.out _ W ⟨HM, flow_vals hV rfl⟩)
            · intro L v W aAct hF hn hd hin hout K hK
              obtain ⟨HM, hV⟩ := hF
              have D32 : L 32 = true := hd ⟨32, Go.Ground.guard⟩ (by simp) rfl
              have E32 : v 32 = .bool false := hV 32 D32
              rw [if_pos (by rw [Inv.wanted_of (b := false) rfl rfl rfl ((hin 32 _ _ rfl rfl).trans E32)]; decide)]
              exact Inv.wp_move (.inl rfl) ((hout 0 rfl).trans rfl) (hK.out _ W ⟨HM, flow_vals hV rfl⟩)
            · intro L v W aAct hF hn hd hin hout K hK
              obtain ⟨HM, hV⟩ := hF
              have D33 : L 33 = true := hd ⟨33, Go.Ground.data⟩ (by simp) rfl
              have D32 : L 32 = true := hd ⟨32, Go.Ground.guard⟩ (by simp) rfl
              have E32 : v 32 = .bool false := hV 32 D32
              rw [if_pos (by rw [Inv.wanted_of (b := false) rfl rfl rfl ((hin 32 _ _ rfl rfl).trans E32)]; decide)]
              have E33 : v 33 = .pointer (some ⟨p, 0, none⟩) := hV 33 D33
              exact Inv.wp_nilCheck rfl ((hin 33 _ _ rfl rfl).trans E33) (hK.out _ W ⟨HM, flow_vals hV rfl⟩)
            · intro L v W aAct hF hn hd hin hout K hK
              obtain ⟨HM, hV⟩ := hF
              have D34 : L 34 = true := hd ⟨34, Go.Ground.data⟩ (by simp) rfl
              have D32 : L 32 = true := hd ⟨32, Go.Ground.guard⟩ (by simp) rfl
              have E32 : v 32 = .bool false := hV 32 D32
              rw [if_pos (by rw [Inv.wanted_of (b := false) rfl rfl rfl ((hin 32 _ _ rfl rfl).trans E32)]; decide)]
              have E34 : v 34 = .pointer (some ⟨p, 0, none⟩) := hV 34 D34
              exact Inv.wp_fieldAddr (u := .pointer (some ⟨p, 5, none⟩)) rfl ((hin 34 _ _ rfl rfl).trans E34) (fun _ => by kernel_rfl) (hK.out _ W ⟨HM, flow_vals hV rfl⟩)
            · intro L v W aAct hF hn hd hin hout K hK
              obtain ⟨HM, hV⟩ := hF
              have D35 : L 35 = true := hd ⟨35, Go.Ground.data⟩ (by simp) rfl
              have D32 : L 32 = true := hd ⟨32, Go.Ground.guard⟩ (by simp) rfl
              have E32 : v 32 = .bool false := hV 32 D32
              rw [if_pos (by rw [Inv.wanted_of (b := false) rfl rfl rfl ((hin 32 _ _ rfl rfl).trans E32)]; decide)]
              have E35 : v 35 = .pointer (some ⟨p, 5, none⟩) := hV 35 D35
              exact Mem.wp_load_one HM rfl ((hin 35 _ _ rfl rfl).trans E35) (by kernel_rfl) (.inr (.head _)) rfl (hK.out _ W ⟨HM, flow_vals hV rfl⟩)
            · intro L v W aAct hF hn hd hin hout K hK
              obtain ⟨HM, hV⟩ := hF
              have D32 : L 32 = true := hd ⟨32, Go.Ground.guard⟩ (by simp) rfl
              have E32 : v 32 = .bool false := hV 32 D32
              rw [if_pos (by rw [Inv.wanted_of (b := false) rfl rfl rfl ((hin 32 _ _ rfl rfl).trans E32)]; decide)]
              exact Inv.wp_move (.inl rfl) ((hout 1 rfl).trans rfl) (hK.out _ W ⟨HM, flow_vals hV rfl⟩)
            · intro L v W aAct hF hn hd hin hout K hK
              obtain ⟨HM, hV⟩ := hF
              have D37 : L 37 = true := hd ⟨37, Go.Ground.data⟩ (by simp) rfl
              have D32 : L 32 = true := hd ⟨32, Go.Ground.guard⟩ (by simp) rfl
              have E32 : v 32 = .bool false := hV 32 D32
              rw [if_pos (by rw [Inv.wanted_of (b := false) rfl rfl rfl ((hin 32 _ _ rfl rfl).trans E32)]; decide)]
              have E37 : v 37 = .pointer (some ⟨q, 0, none⟩) := hV 37 D37
              exact Inv.wp_nilCheck rfl ((hin 37 _ _ rfl rfl).trans E37) (hK.out _ W ⟨HM, flow_vals hV rfl⟩)
            · intro L v W aAct hF hn hd hin hout K hK
              obtain ⟨HM, hV⟩ := hF
              have D38 : L 38 = true := hd ⟨38, Go.Ground.data⟩ (by simp) rfl
              have D32 : L 32 = true := hd ⟨32, Go.Ground.guard⟩ (by simp) rfl
              have E32 : v 32 = .bool false := hV 32 D32
              rw [if_pos (by rw [Inv.wanted_of (b := false) rfl rfl rfl ((hin 32 _ _ rfl rfl).trans E32)]; decide)]
              have E38 : v 38 = .pointer (some ⟨q, 0, none⟩) := hV 38 D38
              exact Inv.wp_fieldAddr (u := .pointer (some ⟨q, 5, none⟩)) rfl ((hin 38 _ _ rfl rfl).trans E38) (fun _ => by kernel_rfl) (hK.out _ W ⟨HM, flow_vals hV rfl⟩)
            · intro L v W aAct hF hn hd hin hout K hK
              obtain ⟨HM, hV⟩ := hF
              have D39 : L 39 = true := hd ⟨39, Go.Ground.data⟩ (by simp) rfl
              have D32 : L 32 = true := hd ⟨32, Go.Ground.guard⟩ (by simp) rfl
              have E32 : v 32 = .bool false := hV 32 D32
              rw [if_pos (by rw [Inv.wanted_of (b := false) rfl rfl rfl ((hin 32 _ _ rfl rfl).trans E32)]; decide)]
              have E39 : v 39 = .pointer (some ⟨q, 5, none⟩) := hV 39 D39
              exact Mem.wp_load_one HM rfl ((hin 39 _ _ rfl rfl).trans E39) (by kernel_rfl) (.inr (.tail _ (.head _))) rfl (hK.out _ W ⟨HM, flow_vals hV rfl⟩)
            · intro L v W aAct hF hn hd hin hout K hK
              obtain ⟨HM, hV⟩ := hF
              have D36 : L 36 = true := hd ⟨36, Go.Ground.data⟩ (by simp) rfl
              have D40 : L 40 = true := hd ⟨40, Go.Ground.data⟩ (by simp) rfl
              have D32 : L 32 = true := hd ⟨32, Go.Ground.guard⟩ (by simp) rfl
              have E32 : v 32 = .bool false := hV 32 D32
              rw [if_pos (by rw [Inv.wanted_of (b := false) rfl rfl rfl ((hin 32 _ _ rfl rfl).trans E32)]; decide)]
              have E36 : v 36 = .int .i64 f0 := hV 36 D36
              have E40 : v 40 = .int .i64 f1 := hV 40 D40
              exact Inv.wp_binop (u := .bool false) rfl ((hin 36 _ _ rfl rfl).trans E36) ((hin 40 _ _ rfl rfl).trans E40) (fun w => (run_neq_intE _ _ _ _ w).trans (by rw [n3])) (hK.out _ W ⟨HM, flow_vals hV rfl⟩)
            · intro L v W aAct hF hn hd hin hout K hK
              obtain ⟨HM, hV⟩ := hF
              have D32 : L 32 = true := hd ⟨32, Go.Ground.data⟩ (by simp) rfl
              have D41 : L 41 = true := hd ⟨41, Go.Ground.data⟩ (by simp) rfl
              rw [if_pos (by rfl)]
              have E32 : v 32 = .bool false := hV 32 D32
              have E41 : v 41 = .bool false := hV 41 D41
              exact Inv.wp_pick rfl ((hin 32 _ _ rfl rfl).trans E32) ((if_neg Bool.false_ne_true).trans ((hin 41 _ _ rfl rfl).trans E41)) (hK.out _ W ⟨HM, flow_vals hV rfl⟩)
            · intro L v W aAct hF hn hd hin hout K hK
              obtain ⟨HM, hV⟩ := hF
              have D42 : L 42 = true := hd ⟨42, Go.Ground.data⟩ (by simp) rfl
              rw [if_pos (by rfl)]
              have E42 : v 42 = .bool false := hV 42 D42
              exact Inv.wp_move (.inl rfl) ((hin 42 _ _ rfl rfl).trans E42) (hK.out _ W ⟨HM, flow_vals hV rfl⟩)
            · intro L v W aAct hF hn hd hin hout K hK
              obtain ⟨HM, hV⟩ := hF
              have D43 : L 43 = true := hd ⟨43, Go.Ground.guard⟩ (by simp) rfl
              have E43 : v 43 = .bool false := hV 43 D43
              rw [if_pos (by rw [Inv.wanted_of (b := false) rfl rfl rfl ((hin 43 _ _ rfl rfl).trans E43)]; decide)]
              exact Inv.wp_move (.inl rfl) ((hout 0 rfl).trans rfl) (hK.out _ W ⟨HM, flow_vals hV rfl⟩)
            · intro L v W aAct hF hn hd hin hout K hK
              obtain ⟨HM, hV⟩ := hF
              have D44 : L 44 = true := hd ⟨44, Go.Ground.data⟩ (by simp) rfl
              have D43 : L 43 = true := hd ⟨43, Go.Ground.guard⟩ (by simp) rfl
              have E43 : v 43 = .bool false := hV 43 D43
              rw [if_pos (by rw [Inv.wanted_of (b := false) rfl rfl rfl ((hin 43 _ _ rfl rfl).trans E43)]; decide)]
              have E44 : v 44 = .pointer (some ⟨p, 0, none⟩) := hV 44 D44
              exact Inv.wp_nilCheck rfl ((hin 44 _ _ rfl rfl).trans E44) (hK.out _ W ⟨HM, flow_vals hV rfl⟩)
            · intro L v W aAct hF hn hd hin hout K hK
              obtain ⟨HM, hV⟩ := hF
              have D45 : L 45 = true := hd ⟨45, Go.Ground.data⟩ (by simp) rfl
              have D43 : L 43 = true := hd ⟨43, Go.Ground.guard⟩ (by simp) rfl
              have E43 : v 43 = .bool false := hV 43 D43
              rw [if_pos (by rw [Inv.wanted_of (b := false) rfl rfl rfl ((hin 43 _ _ rfl rfl).trans E43)]; decide)]
              have E45 : v 45 = .pointer (some ⟨p, 0, none⟩) := hV 45 D45
              exact Inv.wp_fieldAddr (u := .pointer (some ⟨p, 6, none⟩)) rfl ((hin 45 _ _ rfl rfl).trans E45) (fun _ => by kernel_rfl) (hK.out _ W ⟨HM, flow_vals hV rfl⟩)
            · intro L v W aAct hF hn hd hin hout K hK
              obtain ⟨HM, hV⟩ := hF
              have D46 : L 46 = true := hd ⟨46, Go.Ground.data⟩ (by simp) rfl
              have D43 : L 43 = true := hd ⟨43, Go.Ground.guard⟩ (by simp) rfl
              have E43 : v 43 = .bool false := hV 43 D43
              rw [if_pos (by rw [Inv.wanted_of (b := false) rfl rfl rfl ((hin 43 _ _ rfl rfl).trans E43)]; decide)]
              have E46 : v 46 = .pointer (some ⟨p, 6, none⟩) := hV 46 D46
              exact Mem.wp_load_one HM rfl ((hin 46 _ _ rfl rfl).trans E46) (by kernel_rfl) (.inr (.head _)) rfl (hK.out _ W ⟨HM, flow_vals hV rfl⟩)
            · intro L v W aAct hF hn hd hin hout K hK
              obtain ⟨HM, hV⟩ := hF
              have D43 : L 43 = true := hd ⟨43, Go.Ground.guard⟩ (by simp) rfl
              have E43 : v 43 = .bool false := hV 43 D43
              rw [if_pos (by rw [Inv.wanted_of (b := false) rfl rfl rfl ((hin 43 _ _ rfl rfl).trans E43)]; decide)]
              exact Inv.wp_move (.inl rfl) ((hout 1 rfl).trans rfl) (hK.out _ W ⟨HM, flow_vals hV rfl⟩)
            · intro L v W aAct hF hn hd hin hout K hK
              obtain ⟨HM, hV⟩ := hF
              have D48 : L 48 = true := hd ⟨48, Go.Ground.data⟩ (by simp) rfl
              have D43 : L 43 = true := hd ⟨43, Go.Ground.guard⟩ (by simp) rfl
              have E43 : v 43 = .bool false := hV 43 D43
              rw [if_pos (by rw [Inv.wanted_of (b := false) rfl rfl rfl ((hin 43 _ _ rfl rfl).trans E43)]; decide)]
              have E48 : v 48 = .pointer (some ⟨q, 0, none⟩) := hV 48 D48
              exact Inv.wp_nilCheck rfl ((hin 48 _ _ rfl rfl).trans E48) (hK.out _ W ⟨HM, flow_vals hV rfl⟩)
            · intro L v W aAct hF hn hd hin hout K hK
              obtain ⟨HM, hV⟩ := hF
              have D49 : L 49 = true := hd ⟨49, Go.Ground.data⟩ (by simp) rfl
              have D43 : L 43 = true := hd ⟨43, Go.Ground.guard⟩ (by simp) rfl
              have E43 : v 43 = .bool false := hV 43 D43
              rw [if_pos (by rw [Inv.wanted_of (b := false) rfl rfl rfl ((hin 43 _ _ rfl rfl).trans E43)]; decide)]
              have E49 : v 49 = .pointer (some ⟨q, 0, none⟩) := hV 49 D49
              exact Inv.wp_fieldAddr (u := .pointer (some ⟨q, 6, none⟩)) rfl ((hin 49 _ _ rfl rfl).trans E49) (fun _ => by kernel_rfl) (hK.out _ W ⟨HM, flow_vals hV rfl⟩)
            · intro L v W aAct hF hn hd hin hout K hK
              obtain ⟨HM, hV⟩ := hF
              have D50 : L 50 = true := hd ⟨50, Go.Ground.data⟩ (by simp) rfl
              have D43 : L 43 = true := hd ⟨43, Go.Ground.guard⟩ (by simp) rfl
              have E43 : v 43 = .bool false := hV 43 D43
              rw [if_pos (by rw [Inv.wanted_of (b := false) rfl rfl rfl ((hin 43 _ _ rfl rfl).trans E43)]; decide)]
              have E50 : v 50 = .pointer (some ⟨q, 6, none⟩) := hV 50 D50
              exact Mem.wp_load_one HM rfl ((hin 50 _ _ rfl rfl).trans E50) (by kernel_rfl) (.inr (.tail _ (.head _))) rfl (hK.out _ W ⟨HM, flow_vals hV rfl⟩)
            · intro L v W aAct hF hn hd hin hout K hK
              obtain ⟨HM, hV⟩ := hF
              have D47 : L 47 = true := hd ⟨47, Go.Ground.data⟩ (by simp) rfl
              have D51 : L 51 = true := hd ⟨51, Go.Ground.data⟩ (by simp) rfl
              have D43 : L 43 = true := hd ⟨43, Go.Ground.chain⟩ (by simp) rfl
              have E43 : v 43 = .bool false := hV 43 D43
              rw [if_pos (by rw [Inv.wanted_of (b := false) rfl rfl rfl ((hin 43 _ _ rfl rfl).trans E43)]; decide)]
              have E47 : v 47 = .float .f32 h0 := hV 47 D47
              have E51 : v 51 = .float .f32 h1 := hV 51 D51
              refine Inv.wp_call rfl rfl rfl #[.float .f32 h0, .float .f32 h1] (by simp only [List.map_toArray, List.map_cons, List.map_nil, ((hin 47 _ _ rfl rfl).trans E47), ((hin 51 _ _ rfl rfl).trans E51)]) (by kernel_rfl) ((HN2.out _).mono ?_)
              rintro e W' ⟨_, rfl, rfl, hb⟩
              exact ⟨_, rfl, hK.out _ W' ⟨(HM.call hb), flow_vals hV rfl⟩⟩
            · intro L v W aAct hF hn hd hin hout K hK
              obtain ⟨HM, hV⟩ := hF
              have D52 : L 52 = true := hd ⟨52, Go.Ground.data⟩ (by simp) rfl
              have D43 : L 43 = true := hd ⟨43, Go.Ground.guard⟩ (by simp) rfl
              have E43 : v 43 = .bool false := hV 43 D43
              rw [if_pos (by rw [Inv.wanted_of (b := false) rfl rfl rfl ((hin 43 _ _ rfl rfl).trans E43)]; decide)]
              have E52 : v 52 = .bool false := hV 52 D52
              exact Inv.wp_unop (u := .bool true) rfl ((hin 52 _ _ rfl rfl).trans E52) (fun _ => rfl) (hK.out _ W ⟨HM, flow_vals hV rfl⟩)
            · intro L v W aAct hF hn hd hin hout K hK
              obtain ⟨HM, hV⟩ := hF
              have D43 : L 43 = true := hd ⟨43, Go.Ground.data⟩ (by simp) rfl
              have D53 : L 53 = true := hd ⟨53, Go.Ground.data⟩ (by simp) rfl
              rw [if_pos (by rfl)]
              have E43 : v 43 = .bool false := hV 43 D43
              have E53 : v 53 = .bool true := hV 53 D53
              exact Inv.wp_pick rfl ((hin 43 _ _ rfl rfl).trans E43) ((if_neg Bool.false_ne_true).trans ((hin 53 _ _ rfl rfl).trans E53)) (hK.out _ W ⟨HM, flow_vals hV rfl⟩)
            · intro L v W aAct hF hn hd hin hout K hK
              obtain ⟨HM, hV⟩ := hF
              have D54 : L 54 = true := hd ⟨54, Go.Ground.data⟩ (by simp) rfl
              rw [if_pos (by rfl)]
              have E54 : v 54 = .bool true := hV 54 D54
              exact Inv.wp_move (.inl rfl) ((hin 54 _ _ rfl rfl).trans E54) (hK.out _ W ⟨HM, flow_vals hV rfl⟩)
            · intro L v W aAct hF hn hd hin hout K hK
              obtain ⟨HM, hV⟩ := hF
              have D55 : L 55 = true := hd ⟨55, Go.Ground.guard⟩ (by simp) rfl
              have E55 : v 55 = .bool true := hV 55 D55
              rw [if_neg (by rw [Inv.wanted_of (b := true) rfl rfl rfl ((hin 55 _ _ rfl rfl).trans E55)]; decide)]
              exact hK.out _ W ⟨HM, flow_vals hV rfl⟩
            · intro L v W aAct hF hn hd hin hout K hK
              obtain ⟨HM, hV⟩ := hF
              have D55 : L 55 = true := hd ⟨55, Go.Ground.guard⟩ (by simp) rfl
              have E55 : v 55 = .bool true := hV 55 D55
              rw [if_neg (by rw [Inv.wanted_of (b := true) rfl rfl rfl ((hin 55 _ _ rfl rfl).trans E55)]; decide)]
              exact hK.out _ W ⟨HM, flow_vals hV rfl⟩
            · intro L v W aAct hF hn hd hin hout K hK
              obtain ⟨HM, hV⟩ := hF
              have D55 : L 55 = true := hd ⟨55, Go.Ground.guard⟩ (by simp) rfl
              have E55 : v 55 = .bool true := hV 55 D55
              rw [if_neg (by rw [Inv.wanted_of (b := true) rfl rfl rfl ((hin 55 _ _ rfl rfl).trans E55)]; decide)]
              exact hK.out _ W ⟨HM, flow_vals hV rfl⟩
            · intro L v W aAct hF hn hd hin hout K hK
              obtain ⟨HM, hV⟩ := hF
              have D55 : L 55 = true := hd ⟨55, Go.Ground.guard⟩ (by simp) rfl
              have E55 : v 55 = .bool true := hV 55 D55
              rw [if_neg (by rw [Inv.wanted_of (b := true) rfl rfl rfl ((hin 55 _ _ rfl rfl).trans E55)]; decide)]
              exact hK.out _ W ⟨HM, flow_vals hV rfl⟩
            · intro L v W aAct hF hn hd hin hout K hK
              obtain ⟨HM, hV⟩ := hF
              have D55 : L 55 = true := hd ⟨55, Go.Ground.guard⟩ (by simp) rfl
              have E55 : v 55 = .bool true := hV 55 D55
              rw [if_neg (by rw [Inv.wanted_of (b := true) rfl rfl rfl ((hin 55 _ _ rfl rfl).trans E55)]; decide)]
              exact hK.out _ W ⟨HM, flow_vals hV rfl⟩
            · intro L v W aAct hF hn hd hin hout K hK
              obtain ⟨HM, hV⟩ := hF
              have D55 : L 55 = true := hd ⟨55, Go.Ground.guard⟩ (by simp) rfl
              have E55 : v 55 = .bool true := hV 55 D55
              rw [if_neg (by rw [Inv.wanted_of (b := true) rfl rfl rfl ((hin 55 _ _ rfl rfl).trans E55)]; decide)]
              exact hK.out _ W ⟨HM, flow_vals hV rfl⟩
            · intro L v W aAct hF hn hd hin hout K hK
              obtain ⟨HM, hV⟩ := hF
              have D55 : L 55 = true := hd ⟨55, Go.Ground.guard⟩ (by simp) rfl
              have E55 : v 55 = .bool true := hV 55 D55
              rw [if_neg (by rw [Inv.wanted_of (b := true) rfl rfl rfl ((hin 55 _ _ rfl rfl).trans E55)]; decide)]
              exact hK.out _ W ⟨HM, flow_vals hV rfl⟩
            · intro L v W aAct hF hn hd hin hout K hK
              obtain ⟨HM, hV⟩ := hF
              have D55 : L 55 = true := hd ⟨55, Go.Ground.guard⟩ (by simp) rfl
              have E55 : v 55 = .bool true := hV 55 D55
              rw [if_neg (by rw [Inv.wanted_of (b := true) rfl rfl rfl ((hin 55 _ _ rfl rfl).trans E55)]; decide)]
              exact hK.out _ W ⟨HM, flow_vals hV rfl⟩
            · intro L v W aAct hF hn hd hin hout K hK
              obtain ⟨HM, hV⟩ := hF
              have D55 : L 55 = true := hd ⟨55, Go.Ground.guard⟩ (by simp) rfl
              have E55 : v 55 = .bool true := hV 55 D55
              rw [if_neg (by rw [Inv.wanted_of (b := true) rfl rfl rfl ((hin 55 _ _ rfl rfl).trans E55)]; decide)]
              exact hK.out _ W ⟨HM, flow_vals hV rfl⟩
            · intro L v W aAct hF hn hd hin hout K hK
              obtain ⟨HM, hV⟩ := hF
              have D55 : L 55 = true := hd ⟨55, Go.Ground.guard⟩ (by simp) rfl
              have E55 : v 55 = .bool true := hV 55 D55
              rw [if_neg (by rw [Inv.wanted_of (b := true) rfl rfl rfl ((hin 55 _ _ rfl rfl).trans E55)]; decide)]
              exact hK.out _ W ⟨HM, flow_vals hV rfl⟩
            · intro L v W aAct hF hn hd hin hout K hK
              obtain ⟨HM, hV⟩ := hF
              have D55 : L 55 = true := hd ⟨55, Go.Ground.guard⟩ (by simp) rfl
              have E55 : v 55 = .bool true := hV 55 D55
              rw [if_neg (by rw [Inv.wanted_of (b := true) rfl rfl rfl ((hin 55 _ _ rfl rfl).trans E55)]; decide)]
              exact hK.out _ W ⟨HM, flow_vals hV rfl⟩
            · intro L v W aAct hF hn hd hin hout K hK
              obtain ⟨HM, hV⟩ := hF
              have D55 : L 55 = true := hd ⟨55, Go.Ground.data⟩ (by simp) rfl
              rw [if_pos (by rfl)]
              have E55 : v 55 = .bool true := hV 55 D55
              exact Inv.wp_pick rfl ((hin 55 _ _ rfl rfl).trans E55) ((if_pos rfl).trans rfl) (hK.out _ W ⟨HM, flow_vals hV rfl⟩)
            clear HM
            intro L v W2 hL hF
            obtain ⟨HM, hV⟩ := hF
            have E67 : v 67 = .bool true := hV 67 (hL 67 rfl)
            simp only [Inv.putAll, List.append, Act.put, List.setIfInBounds_toArray, List.set_cons_zero, List.set_cons_succ, E67]
            clear hV hL E67
            obtain ⟨W, hWW⟩ : ∃ W, W = W2 := ⟨_, rfl⟩; subst hWW
            go_wp2_with fail
            simp [bodyPost, results, Try.results16, go_sem]
            exact ⟨_, rfl, by rw [HR.out]; exact rfl, HM.below⟩
          · skip
            have HP2 : Aside (∀ w, Calls Try.prog 34 #[.agg #[.float .f32 a0.1, .float .f32 a0.2.1, .float .f32 a0.2.2], .agg #[.float .f32 a1.1, .float .f32 a1.2.1, .float .f32 a1.2.2]] w (Gives (isB true) w)) := by
              have HP : ∀ w, Calls Try.prog 34 #[.agg #[.float .f32 a0.1, .float .f32 a0.2.1, .float .f32 a0.2.2], .agg #[.float .f32 a1.1, .float .f32 a1.2.1, .float .f32 a1.2.2]] w (Gives (isB (sameT a0 a1)) w) := fun w => l01SamePoint_any a0.1 a0.2.1 a0.2.2 a1.1 a1.2.1 a1.2.2 w
              rw [b1] at HP
              exact HP
            have HN2 : Aside (∀ w, Calls Try.prog 35 #[.float .f32 h0, .float .f32 h1] w (Gives (isB true) w)) := fun w => (l01Same_any h0 h1 w).mono fun e w2 ⟨v, he, hv, hw⟩ => ⟨v, he, by rw [← b4]; exact hv, by rw [hw]; exact Below.refl _ _⟩
            have n0 : (k0 != k1) = false := by simp only [bne, b0, Bool.not_true, Bool.not_false]
            have n2 : (s0 != s1) = false := by simp only [bne, b2, Bool.not_true, Bool.not_false]
            have n3 : (f0 != f1) = false := by simp only [bne, b3, Bool.not_true, Bool.not_false]
            have HR : Aside (sameC k0 k1 a0 a1 s0 s1 f0 f1 h0 h1 z0 z1 = decide (z0 = z1)) := by show sameC k0 k1 a0 a1 s0 s1 f0 f1 h0 h1 z0 z1 = decide (z0 = z1); unfold sameC; simp only [b0, b1, b2, b3, b4, Bool.true_and]
            by_cases hl : z0.length = z1.length
            · have n5 : ((z0.length : Int) != (z1.length : Int)) = false := by simp; omega
              go_enter Try.func16, Try.ntmps16
              go_wp2_with fail
              refine Inv.wp_region_flow (F := fun L v W => Mem w W [(p, [.int .i8 k0, .float .f32 a0.1, .float .f32 a0.2.1, .float .f32 a0.2.2, .int .i64 s0, .int .i64 f0, .float .f32 h0, .slice x0 z0.length y0]), (q, [.int .i8 k1, .float .f32 a1.1, .float .f32 a1.2.1, .float .f32 a1.2.2, .int .i64 s1, .int .i64 f1, .float .f32 h1, .slice x1 z1.length y1])] [] ∧ ∀ j, L j = true → v j = ([.pointer (some ⟨p, 0, none⟩), .pointer (some ⟨p, 0, none⟩), .pointer (some ⟨p, 0, none⟩), .int .i8 k0, .pointer (some ⟨q, 0, none⟩), .pointer (some ⟨q, 0, none⟩), .pointer (some ⟨q, 0, none⟩), .int .i8 k1, .bool false, .bool false, .pointer (some ⟨p, 0, none⟩), .pointer (some ⟨p, 0, none⟩), .pointer (some ⟨p, 1, none⟩), .agg #[.float .f32 a0.1, .float .f32 a0.2.1, .float .f32 a0.2.2], .pointer (some ⟨q, 0, none⟩), .pointer (some ⟨q, 0, none⟩), .pointer (some ⟨q, 1, none⟩), .agg #[.float .f32 a1.1, .float .f32 a1.2.1, .float .f32 a1.2.2], .bool true, .bool false, .bool false, .bool false, .pointer (some ⟨p, 0, none⟩), .pointer (some ⟨p, 0, none⟩), .pointer (some ⟨p, 4, none⟩), .int .i64 s0, .pointer (some ⟨q, 0, none⟩), .pointer (some ⟨q, 0, none⟩), .pointer (some ⟨q, 4, none⟩), .int .i64 s1, .bool false, .bool false, .bool false, .pointer (some ⟨p, 0, none⟩), .pointer (some ⟨p, 0, none⟩), .pointer (some ⟨p, 5, none⟩), .int .i64 f0, .pointer (some ⟨q, 0, none⟩), .pointer (some ⟨q, 0, none⟩), .pointer (some ⟨q, 5, none⟩), .int .i64 f1, .bool false, .bool false, .bool false, .pointer (some ⟨p, 0, none⟩), .pointer (some ⟨p, 0, none⟩), .pointer (some ⟨p, 6, none⟩), .float .f32 h0, .pointer (some ⟨q, 0, none⟩), .pointer (some ⟨q, 0, none⟩), .pointer (some ⟨q, 6, none⟩), .float .f32 h1, .bool true, .bool false, .bool false, .bool false, .pointer (some ⟨p, 0, none⟩), .pointer (some ⟨p, 0, none⟩), .pointer (some ⟨p, 7, none⟩), .slice x0 z0.length y0, .int .i64 z0.length, .pointer (some ⟨q, 0, none⟩), .pointer (some ⟨q, 0, none⟩), .pointer (some ⟨q, 7, none⟩), .slice x1 z1.length y1, .int .i64 z1.length, .bool false, .bool false] : List Value).getD j undef) (by kernel_rfl) (by kernel_rfl) (by kernel_rfl) (fun v => ⟨HM.drew, fun j h => absurd h Bool.false_ne_true⟩) ⟨?_, ?_, ?_, ?_, ?_, ?_, ?_, ?_, ?_, ?_, ?_, ?_, ?_, ?_, ?_, ?_, ?_, ?_, ?_, ?_, ?_, ?_, ?_, ?_, ?_, ?_, ?_, ?_, ?_, ?_, ?_, ?_, ?_, ?_, ?_, ?_, ?_, ?_, ?_, ?_, ?_, ?_, ?_, ?_, ?_, ?_, ?_, ?_, ?_, ?_, ?_, ?_, ?_, ?_, ?_, ?_, ?_, ?_, ?_, ?_, ?_, ?_, ?_, ?_, ?_, ?_, ?_, ?_, trivial⟩ ?_
              · intro L v W aAct hF hn hd hin hout K hK
                obtain ⟨HM, hV⟩ := hF
                rw [if_pos (by rfl)]
                exact Inv.wp_move (.inl rfl) ((hout 0 rfl).trans rfl) (hK.out _ W ⟨HM, flow_vals hV rfl⟩)
              · intro L v W aAct hF hn hd hin hout K hK
                obtain ⟨HM, hV⟩ := hF
                have D0 : L 0 = true := hd ⟨0, Go.Ground.data⟩ (by simp) rfl
                rw [if_pos (by rfl)]
                have E0 : v 0 = .pointer (some ⟨p, 0, none⟩) := hV 0 D0
                exact Inv.wp_nilCheck rfl ((hin 0 _ _ rfl rfl).trans E0) (hK.out _ W ⟨HM, flow_vals hV rfl⟩)
              · intro L v W aAct hF hn hd hin hout K hK
                obtain ⟨HM, hV⟩ := hF
                have D1 : L 1 = true := hd ⟨1, Go.Ground.data⟩ (by simp) rfl
                rw [if_pos (by rfl)]
                have E1 : v 1 = .pointer (some ⟨p, 0, none⟩) := hV 1 D1
                exact Inv.wp_fieldAddr (u := .pointer (some ⟨p, 0, none⟩)) rfl ((hin 1 _ _ rfl rfl).trans E1) (fun _ => by kernel_rfl) (hK.out _ W ⟨HM, flow_vals hV rfl⟩)
              · intro L v W aAct hF hn hd hin hout K hK
                obtain ⟨HM, hV⟩ := hF
                have D2 : L 2 = true := hd ⟨2, Go.Ground.data⟩ (by simp) rfl
                rw [if_pos (by rfl)]
                have E2 : v 2 = .pointer (some ⟨p, 0, none⟩) := hV 2 D2
                exact Mem.wp_load_one HM rfl ((hin 2 _ _ rfl rfl).trans E2) (by kernel_rfl) (.inr (.head _)) rfl (hK.out _ W ⟨HM, flow_vals hV rfl⟩)
              · intro L v W aAct hF hn hd hin hout K hK
                obtain ⟨HM, hV⟩ := hF
                rw [if_pos (by rfl)]
                exact Inv.wp_move (.inl rfl) ((hout 1 rfl).trans rfl) (hK.out _ W ⟨HM, flow_vals hV rfl⟩)
              · intro L v W aAct hF hn hd hin hout K hK
                obtain ⟨HM, hV⟩ := hF
                have D4 : L 4 = true := hd ⟨4, Go.Ground.data⟩ (by simp) rfl
                rw [if_pos (by rfl)]
                have E4 : v 4 = .pointer (some ⟨q, 0, none⟩) := hV 4 D4
                exact Inv.wp_nilCheck rfl ((hin 4 _ _ rfl rfl).trans E4) (hK.out _ W ⟨HM, flow_vals hV rfl⟩)
              · intro L v W aAct hF hn hd hin hout K hK
                obtain ⟨HM, hV⟩ := hF
                have D5 : L 5 = true := hd ⟨5, Go.Ground.data⟩ (by simp) rfl
                rw [if_pos (by rfl)]
                have E5 : v 5 = .pointer (some ⟨q, 0, none⟩) := hV 5 D5
                exact Inv.wp_fieldAddr (u := .pointer (some ⟨q, 0, none⟩)) rfl ((hin 5 _ _ rfl rfl).trans E5) (fun _ => by kernel_rfl) (hK.out _ W ⟨HM, flow_vals hV rfl⟩)
              · intro L v W aAct hF hn hd hin hout K hK
                obtain ⟨HM, hV⟩ := hF
                have D6 : L 6 = true := hd ⟨6, Go.Ground.data⟩ (by simp) rfl
                rw [if_pos (by rfl)]
                have E6 : v 6 = .pointer (some ⟨q, 0, none⟩) := hV 6 D6
                exact Mem.wp_load_one HM rfl ((hin 6 _ _ rfl rfl).trans E6) (by kernel_rfl) (.inr (.tail _ (.head _))) rfl (hK.out _ W ⟨HM, flow_vals hV rfl⟩)
              · intro L v W aAct hF hn hd hin hout K hK
                obtain ⟨HM, hV⟩ := hF
                have D3 : L 3 = true := hd ⟨3, Go.Ground.data⟩ (by simp) rfl
                have D7 : L 7 = true := hd ⟨7, Go.Ground.data⟩ (by simp) rfl
                rw [if_pos (by rfl)]
                have E3 : v 3 = .int .i8 k0 := hV 3 D3
                have E7 : v 7 = .int .i8 k1 := hV 7 D7
                exact Inv.wp_binop (u := .bool false) rfl ((hin 3 _ _ rfl rfl).trans E3) ((hin 7 _ _ rfl rfl).trans E7) (fun w => (run_neq_intE _ _ _ _ w).trans (by rw [n0])) (hK.out _ W ⟨HM, flow_vals hV rfl⟩)
              · intro L v W aAct hF hn hd hin hout K hK
                obtain ⟨HM, hV⟩ := hF
                have D8 : L 8 = true := hd ⟨8, Go.Ground.data⟩ (by simp) rfl
                rw [if_pos (by rfl)]
                have E8 : v 8 = .bool false := hV 8 D8
                exact Inv.wp_move (.inl rfl) ((hin 8 _ _ rfl rfl).trans E8) (hK.out _ W ⟨HM, flow_vals hV rfl⟩)
              · intro L v W aAct hF hn hd hin hout K hK
                obtain ⟨HM, hV⟩ := hF
                have D9 : L 9 = true := hd ⟨9, Go.Ground.guard⟩ (by simp) rfl
                have E9 : v 9 = .bool false := hV 9 D9
                rw [if_pos (by rw [Inv.wanted_of (b := false) rfl rfl rfl ((hin 9 _ _ rfl rfl).trans E9)]; decide)]
                exact Inv.wp_move (.inl rfl) ((hout 0 rfl).trans rfl) (hK.out _ W ⟨HM, flow_vals hV rfl⟩)
              · intro L v W aAct hF hn hd hin hout K hK
                obtain ⟨HM, hV⟩ := hF
                have D10 : L 10 = true := hd ⟨10, Go.Ground.data⟩ (by simp) rfl
                have D9 : L 9 = true := hd ⟨9, Go.Ground.guard⟩ (by simp) rfl
                have E9 : v 9 = .bool false := hV 9 D9
                rw [if_pos (by rw [Inv.wanted_of (b := false) rfl rfl rfl ((hin 9 _ _ rfl rfl).trans E9)]; decide)]
                have E10 : v 10 = .pointer (some ⟨p, 0, none⟩) := hV 10 D10
                exact Inv.wp_nilCheck rfl ((hin 10 _ _ rfl rfl).trans E10) (hK.out _ W ⟨HM, flow_vals hV rfl⟩)
              · intro L v W aAct hF hn hd hin hout K hK
                obtain ⟨HM, hV⟩ := hF
                have D11 : L 11 = true := hd ⟨11, Go.Ground.data⟩ (by simp) rfl
                have D9 : L 9 = true := hd ⟨9, Go.Ground.guard⟩ (by simp) rfl
                have E9 : v 9 = .bool false := hV 9 D9
                rw [if_pos (by rw [Inv.wanted_of (b := false) rfl rfl rfl ((hin 9 _ _ rfl rfl).trans E9)]; decide)]
                have E11 : v 11 = .pointer (some ⟨p, 0, none⟩) := hV 11 D11
                exact Inv.wp_fieldAddr (u := .pointer (some ⟨p, 1, none⟩)) rfl ((hin 11 _ _ rfl rfl).trans E11) (fun _ => by kernel_rfl) (hK.out _ W ⟨HM, flow_vals hV rfl⟩)
              · intro L v W aAct hF hn hd hin hout K hK
                obtain ⟨HM, hV⟩ := hF
                have D12 : L 12 = true := hd ⟨12, Go.Ground.data⟩ (by simp) rfl
                have D9 : L 9 = true := hd ⟨9, Go.Ground.guard⟩ (by simp) rfl
                have E9 : v 9 = .bool false := hV 9 D9
                rw [if_pos (by rw [Inv.wanted_of (b := false) rfl rfl rfl ((hin 9 _ _ rfl rfl).trans E9)]; decide)]
                have E12 : v 12 = .pointer (some ⟨p, 1, none⟩) := hV 12 D12
                exact Mem.wp_load_row HM 3 rfl ((hin 12 _ _ rfl rfl).trans E12) (by kernel_rfl) (.inr (.head _)) rfl rfl (hK.out _ W ⟨HM, flow_vals hV rfl⟩)
              · intro L v W aAct hF hn hd hin hout K hK
                obtain ⟨HM, hV⟩ := hF
                have D9 : L 9 = true := hd ⟨9, Go.Ground.guard⟩ (by simp) rfl
                have E9 : v 9 = .bool false := hV 9 D9
                rw [if_pos (by rw [Inv.wanted_of (b := false) rfl rfl rfl ((hin 9 _ _ rfl rfl).trans E9)]; decide)]
                exact Inv.wp_move (.inl rfl) ((hout 1 rfl).trans rfl) (hK.out _ W ⟨HM, flow_vals hV rfl⟩)
              · intro L v W aAct hF hn hd hin hout K hK
                obtain ⟨HM, hV⟩ := hF
                have D14 : L 14 = true := hd ⟨14, Go.Ground.data⟩ (by simp) rfl
                have D9 : L 9 = true := hd ⟨9, Go.Ground.guard⟩ (by simp) rfl
                have E9 : v 9 = .bool false := hV 9 D9
                rw [if_pos (by rw [Inv.wanted_of (b := false) rfl rfl rfl ((hin 9 _ _ rfl rfl).trans E9)]; decide)]
                have E14 : v 14 = .pointer (some ⟨q, 0, none⟩) := hV 14 D14
                exact Inv.wp_nilCheck rfl ((hin 14 _ _ rfl rfl).trans E14) (hK.out _ W ⟨HM, flow_vals hV rfl⟩)
              · intro L v W aAct hF hn hd hin hout K hK
                obtain ⟨HM, hV⟩ := hF
                have D15 : L 15 = true := hd ⟨15, Go.Ground.data⟩ (by simp) rfl
                have D9 : L 9 = true := hd ⟨9, Go.Ground.guard⟩ (by simp) rfl
                have E9 : v 9 = .bool false := hV 9 D9
                rw [if_pos (by rw [Inv.wanted_of (b := false) rfl rfl rfl ((hin 9 _ _ rfl rfl).trans E9)]; decide)]
                have E15 : v 15 = .pointer (some ⟨q, 0, none⟩) := hV 15 D15
                exact Inv.wp_fieldAddr (u := .pointer (some ⟨q, 1, none⟩)) rfl ((hin 15 _ _ rfl rfl).trans E15) (fun _ => by kernel_rfl) (hK.out _ W ⟨HM, flow_vals hV rfl⟩)
              · intro L v W aAct hF hn hd hin hout K hK
                obtain ⟨HM, hV⟩ := hF
                have D16 : L 16 = true := hd ⟨16, Go.Ground.data⟩ (by simp) rfl
                have D9 : L 9 = true := hd ⟨9, Go.Ground.guard⟩ (by simp) rfl
                have E9 : v 9 = .bool false := hV 9 D9
                rw [if_pos (by rw [Inv.wanted_of (b := false) rfl rfl rfl ((hin 9 _ _ rfl rfl).trans E9)]; decide)]
                have E16 : v 16 = .pointer (some ⟨q, 1, none⟩) := hV 16 D16
                exact Mem.wp_load_row HM 3 rfl ((hin 16 _ _ rfl rfl).trans E16) (by kernel_rfl) (.inr (.tail _ (.head _))) rfl rfl (hK.out _ W ⟨HM, flow_vals hV rfl⟩)
              · intro L v W aAct hF hn hd hin hout K hK
                obtain ⟨HM, hV⟩ := hF
                have D13 : L 13 = true := hd ⟨13, Go.Ground.data⟩ (by simp) rfl
                have D17 : L 17 = true := hd ⟨17, Go.Ground.data⟩ (by simp) rfl
                have D9 : L 9 = true := hd ⟨9, Go.Ground.chain⟩ (by simp) rfl
                have E9 : v 9 = .bool false := hV 9 D9
                rw [if_pos (by rw [Inv.wanted_of (b := false) rfl rfl rfl ((hin 9 _ _ rfl rfl).trans E9)]; decide)]
                have E13 : v 13 = .agg #[.float .f32 a0.1, .float .f32 a0.2.1, .float .f32 a0.2.2] := hV 13 D13
                have E17 : v 17 = .agg #[.float .f32 a1.1, .float .f32 a1.2.1, .float .f32 a1.2.2] := hV 17 D17
                refine Inv.wp_call rfl rfl rfl #[.agg #[.float .f32 a0.1, .float .f32 a0.2.1, .float .f32 a0.2.2], .agg #[.float .f32 a1.1, .float .f32 a1.2.1, .float .f32 a1.2.2]] (by simp only [List.map_toArray, List.map_cons, List.map_nil, ((hin 13 _ _ rfl rfl).trans E13), ((hin 17 _ _ rfl rfl).trans E17)]) (by kernel_rfl) ((HP2.out _).mono ?_)
                rintro e W' ⟨_, rfl, rfl, hb⟩
                exact ⟨_, rfl, hK.out _ W' ⟨(HM.call hb), flow_vals hV rfl⟩⟩
              · intro L v W aAct hF hn hd hin hout K hK
                obtain ⟨HM, hV⟩ := hF
                have D18 : L 18 = true := hd ⟨18, Go.Ground.data⟩ (by simp) rfl
                have D9 : L 9 = true := hd ⟨9, Go.Ground.guard⟩ (by simp) rfl
                have E9 : v 9 = .bool false := hV 9 D9
                rw [if_pos (by rw [Inv.wanted_of (b := false) rfl rfl rfl ((hin 9 _ _ rfl rfl).trans E9)]; decide)]
                have E18 : v 18 = .bool true := hV 18 D18
                exact Inv.wp_unop (u := .bool false) rfl ((hin 18 _ _ rfl rfl).trans E18) (fun _ => rfl) (hK.out _ W ⟨HM, flow_vals hV rfl⟩)
              · intro L v W aAct hF hn hd hin hout K hK
                obtain ⟨HM, hV⟩ := hF
                have D9 : L 9 = true := hd ⟨9, Go.Ground.data⟩ (by simp) rfl
                have D19 : L 19 = true := hd ⟨19, Go.Ground.data⟩ (by simp) rfl
                rw [if_pos (by rfl)]
                have E9 : v 9 = .bool false := hV 9 D9
                have E19 : v 19 = .bool false := hV 19 D19
                exact Inv.wp_pick rfl ((hin 9 _ _ rfl rfl).trans E9) ((if_neg Bool.false_ne_true).trans ((hin 19 _ _ rfl rfl).trans E19)) (hK.out _ W ⟨HM, flow_vals hV rfl⟩)
              · intro L v W aAct hF hn hd hin hout K hK
                obtain ⟨HM, hV⟩ := hF
                have D20 : L 20 = true := hd ⟨20, Go.Ground.data⟩ (by simp) rfl
                rw [if_pos (by rfl)]
                have E20 : v 20 = .bool false := hV 20 D20
                exact Inv.wp_move (.inl rfl) ((hin 20 _ _ rfl rfl).trans E20) (hK.out _ W ⟨HM, flow_vals hV rfl⟩)
              · intro L v W aAct hF hn hd hin hout K hK
                obtain ⟨HM, hV⟩ := hF
                have D21 : L 21 = true := hd ⟨21, Go.Ground.guard⟩ (by simp) rfl
                have E21 : v 21 = .bool false := hV 21 D21
                rw [if_pos (by rw [Inv.wanted_of (b := false) rfl rfl rfl ((hin 21 _ _ rfl rfl).trans E21)]; decide)]
                exact Inv.wp_move (.inl rfl) ((hout 0 rfl).trans rfl) (hK.out _ W ⟨HM, flow_vals hV rfl⟩)
              · intro L v W aAct hF hn hd hin hout K hK
                obtain ⟨HM, hV⟩ := hF
                have D22 : L 22 = true := hd ⟨22, Go.Ground.data⟩ (by simp) rfl
                have D21 : L 21 = true := hd ⟨21, Go.Ground.guard⟩ (by simp) rfl
                have E21 : v 21 = .bool false := hV 21 D21
                rw [if_pos (by rw [Inv.wanted_of (b := false) rfl rfl rfl ((hin 21 _ _ rfl rfl).trans E21)]; decide)]
                have E22 : v 22 = .pointer (some ⟨p, 0, none⟩) := hV 22 D22
                exact Inv.wp_nilCheck rfl ((hin 22 _ _ rfl rfl).trans E22) (hK.out _ W ⟨HM, flow_vals hV rfl⟩)
              · intro L v W aAct hF hn hd hin hout K hK
                obtain ⟨HM, hV⟩ := hF
                have D23 : L 23 = true := hd ⟨23, Go.Ground.data⟩ (by simp) rfl
                have D21 : L 21 = true := hd ⟨21, Go.Ground.guard⟩ (by simp) rfl
                have E21 : v 21 = .bool false := hV 21 D21
                rw [if_pos (by rw [Inv.wanted_of (b := false) rfl rfl rfl ((hin 21 _ _ rfl rfl).trans E21)]; decide)]
                have E23 : v 23 = .pointer (some ⟨p, 0, none⟩) := hV 23 D23
                exact Inv.wp_fieldAddr (u := .pointer (some ⟨p, 4, none⟩)) rfl ((hin 23 _ _ rfl rfl).trans E23) (fun _ => by kernel_rfl) (hK.out _ W ⟨HM, flow_vals hV rfl⟩)
              · intro L v W aAct hF hn hd hin hout K hK
                obtain ⟨HM, hV⟩ := hF
                have D24 : L 24 = true := hd ⟨24, Go.Ground.data⟩ (by simp) rfl
                have D21 : L 21 = true := hd ⟨21, Go.Ground.guard⟩ (by simp) rfl
                have E21 : v 21 = .bool false := hV 21 D21
                rw [if_pos (by rw [Inv.wanted_of (b := false) rfl rfl rfl ((hin 21 _ _ rfl rfl).trans E21)]; decide)]
                have E24 : v 24 = .pointer (some ⟨p, 4, none⟩) := hV 24 D24
                exact Mem.wp_load_one HM rfl ((hin 24 _ _ rfl rfl).trans E24) (by kernel_rfl) (.inr (.head _)) rfl (hK.out _ W ⟨HM, flow_vals hV rfl⟩)
              · intro L v W aAct hF hn hd hin hout K hK
                obtain ⟨HM, hV⟩ := hF
                have D21 : L 21 = true := hd ⟨21, Go.Ground.guard⟩ (by simp) rfl
                have E21 : v 21 = .bool false := hV 21 D21
                rw [if_pos (by rw [Inv.wanted_of (b := false) rfl rfl rfl ((hin 21 _ _ rfl rfl).trans E21)]; decide)]
                exact Inv.wp_move (.inl rfl) ((hout 1 rfl).trans rfl) (hK.out _ W ⟨HM, flow_vals hV rfl⟩)
              · intro L v W aAct hF hn hd hin hout K hK
                obtain ⟨HM, hV⟩ := hF
                have D26 : L 26 = true := hd ⟨26, Go.Ground.data⟩ (by simp) rfl
                have D21 : L 21 = true := hd ⟨21, Go.Ground.guard⟩ (by simp) rfl
                have E21 : v 21 = .bool false := hV 21 D21
                rw [if_pos (by rw [Inv.wanted_of (b := false) rfl rfl rfl ((hin 21 _ _ rfl rfl).trans E21)]; decide)]
                have E26 : v 26 = .pointer (some ⟨q, 0, none⟩) := hV 26 D26
                exact Inv.wp_nilCheck rfl ((hin 26 _ _ rfl rfl).trans E26) (hK.out _ W ⟨HM, flow_vals hV rfl⟩)
              · intro L v W aAct hF hn hd hin hout K hK
                obtain ⟨HM, hV⟩ := hF
                have D27 : L 27 = true := hd ⟨27, Go.Ground.data⟩ (by simp) rfl
                have D21 : L 21 = true := hd ⟨21, Go.Ground.guard⟩ (by simp) rfl
                have E21 : v 21 = .bool false := hV 21 D21
                rw [if_pos (by rw [Inv.wanted_of (b := false) rfl rfl rfl ((hin 21 _ _ rfl rfl).trans E21)]; decide)]
                have E27 : v 27 = .pointer (some ⟨q, 0, none⟩) := hV 27 D27
                exact Inv.wp_fieldAddr (u := .pointer (some ⟨q, 4, none⟩)) rfl ((hin 27 _ _ rfl rfl).trans E27) (fun _ => by kernel_rfl) (hK.out _ W ⟨HM, flow_vals hV rfl⟩)
              · intro L v W aAct hF hn hd hin hout K hK
                obtain ⟨HM, hV⟩ := hF
                have D28 : L 28 = true := hd ⟨28, Go.Ground.data⟩ (by simp) rfl
                have D21 : L 21 = true := hd ⟨21, Go.Ground.guard⟩ (by simp) rfl
                have E21 : v 21 = .bool false := hV 21 D21
                rw [if_pos (by rw [Inv.wanted_of (b := false) rfl rfl rfl ((hin 21 _ _ rfl rfl).trans E21)]; decide)]
                have E28 : v 28 = .pointer (some ⟨q, 4, none⟩) := hV 28 D28
                exact Mem.wp_load_one HM rfl ((hin 28 _ _ rfl rfl).trans E28) (by kernel_rfl) (.inr (.tail _ (.head _))) rfl (hK.out _ W ⟨HM, flow_vals hV rfl⟩)
              · intro L v W aAct hF hn hd hin hout K hK
                obtain ⟨HM, hV⟩ := hF
                have D25 : L 25 = true := hd ⟨25, Go.Ground.data⟩ (by simp) rfl
                have D29 : L 29 = true := hd ⟨29, Go.Ground.data⟩ (by simp) rfl
                have D21 : L 21 = true := hd ⟨21, Go.Ground.guard⟩ (by simp) rfl
                have E21 : v 21 = .bool false := hV 21 D21
                rw [if_pos (by rw [Inv.wanted_of (b := false) rfl rfl rfl ((hin 21 _ _ rfl rfl).trans E21)]; decide)]
                have E25 : v 25 = .int .i64 s0 := hV 25 D25
                have E29 : v 29 = .int .i64 s1 := hV 29 D29
                exact Inv.wp_binop (u := .bool false) rfl ((hin 25 _ _ rfl rfl).trans E25) ((hin 29 _ _ rfl rfl).trans E29) (fun w => (run_neq_intE _ _ _ _ w).trans (by rw [n2])) (hK.out _ W ⟨HM, flow_vals hV rfl⟩)
              · intro L v W aAct hF hn hd hin hout K hK
                obtain ⟨HM, hV⟩ := hF
                have D21 : L 21 = true := hd ⟨21, Go.Ground.data⟩ (by simp) rfl
                have D30 : L 30 = true := hd ⟨30, Go.Ground.data⟩ (by simp) rfl
                rw [if_pos (by rfl)]
                have E21 : v 21 = .bool false := hV 21 D21
                have E30 : v 30 = .bool false := hV 30 D30
                exact Inv.wp_pick rfl ((hin 21 _ _ rfl rfl).trans E21) ((if_neg Bool.false_ne_true).trans ((hin 30 _ _ rfl rfl).trans E30)) (hK.out _ W ⟨HM, flow_vals hV rfl⟩)
              · intro L v W aAct hF hn hd hin hout K hK
                obtain ⟨HM, hV⟩ := hF
                have D31 : L 31 = true := hd ⟨31, Go.Ground.data⟩ (by simp) rfl
                rw [if_pos (by rfl)]
                have E31 : v 31 = .bool false := hV 31 D31
                exact Inv.wp_move (.inl rfl) ((hin 31 _ _ rfl rfl).trans E31) (hK.out _ W ⟨HM, flow_vals hV rfl⟩)
              · intro L v W aAct hF hn hd hin hout K hK
                obtain ⟨HM, hV⟩ := hF
                have D32 : L 32 = true := hd ⟨32, Go.Ground.guard⟩ (by simp) rfl
                have E32 : v 32 = .bool false := hV 32 D32
                rw [if_pos (by rw [Inv.wanted_of (b := false) rfl rfl rfl ((hin 32 _ _ rfl rfl).trans E32)]; decide)]
                exact Inv.wp_move (.inl rfl) ((hout 0 rfl).trans rfl) (hK.out _ W ⟨HM, flow_vals hV rfl⟩)
              · intro L v W aAct hF hn hd hin hout K hK
                obtain ⟨HM, hV⟩ := hF
                have D33 : L 33 = true := hd ⟨33, Go.Ground.data⟩ (by simp) rfl
                have D32 : L 32 = true := hd ⟨32, Go.Ground.guard⟩ (by simp) rfl
                have E32 : v 32 = .bool false := hV 32 D32
                rw [if_pos (by rw [Inv.wanted_of (b := false) rfl rfl rfl ((hin 32 _ _ rfl rfl).trans E32)]; decide)]
                have E33 : v 33 = .pointer (some ⟨p, 0, none⟩) := hV 33 D33
                exact Inv.wp_nilCheck rfl ((hin 33 _ _ rfl rfl).trans E33) (hK.out _ W ⟨HM, flow_vals hV rfl⟩)
              · intro L v W aAct hF hn hd hin hout K hK
                obtain ⟨HM, hV⟩ := hF
                have D34 : L 34 = true := hd ⟨34, Go.Ground.data⟩ (by simp) rfl
                have D32 : L 32 = true := hd ⟨32, Go.Ground.guard⟩ (by simp) rfl
                have E32 : v 32 = .bool false := hV 32 D32
                rw [if_pos (by rw [Inv.wanted_of (b := false) rfl rfl rfl ((hin 32 _ _ rfl rfl).trans E32)]; decide)]
                have E34 : v 34 = .pointer (some ⟨p, 0, none⟩) := hV 34 D34
                exact Inv.wp_fieldAddr (u := .pointer (some ⟨p, 5, none⟩)) rfl ((hin 34 _ _ rfl rfl).trans E34) (fun _ => by kernel_rfl) (hK.out _ W ⟨HM, flow_vals hV rfl⟩)
              · intro L v W aAct hF hn hd hin hout K hK
                obtain ⟨HM, hV⟩ := hF
                have D35 : L 35 = true := hd ⟨35, Go.Ground.data⟩ (by simp) rfl
                have D32 : L 32 = true := hd ⟨32, Go.Ground.guard⟩ (by simp) rfl
                have E32 : v 32 = .bool false := hV 32 D32
                rw [if_pos (by rw [Inv.wanted_of (b := false) rfl rfl rfl ((hin 32 _ _ rfl rfl).trans E32)]; decide)]
                have E35 : v 35 = .pointer (some ⟨p, 5, none⟩) := hV 35 D35
                exact Mem.wp_load_one HM rfl ((hin 35 _ _ rfl rfl).trans E35) (by kernel_rfl) (.inr (.head _)) rfl (hK.out _ W ⟨HM, flow_vals hV rfl⟩)
              · intro L v W aAct hF hn hd hin hout K hK
                obtain ⟨HM, hV⟩ := hF
                have D32 : L 32 = true := hd ⟨32, Go.Ground.guard⟩ (by simp) rfl
                have E32 : v 32 = .bool false := hV 32 D32
                rw [if_pos (by rw [Inv.wanted_of (b := false) rfl rfl rfl ((hin 32 _ _ rfl rfl).trans E32)]; decide)]
                exact Inv.wp_move (.inl rfl) ((hout 1 rfl).trans rfl) (hK.out _ W ⟨HM, flow_vals hV rfl⟩)
              · intro L v W aAct hF hn hd hin hout K hK
                obtain ⟨HM, hV⟩ := hF
                have D37 : L 37 = true := hd ⟨37, Go.Ground.data⟩ (by simp) rfl
                have D32 : L 32 = true := hd ⟨32, Go.Ground.guard⟩ (by simp) rfl
                have E32 : v 32 = .bool false := hV 32 D32
                rw [if_pos (by rw [Inv.wanted_of (b := false) rfl rfl rfl ((hin 32 _ _ rfl rfl).trans E32)]; decide)]
                have E37 : v 37 = .pointer (some ⟨q, 0, none⟩) := hV 37 D37
                exact Inv.wp_nilCheck rfl ((hin 37 _ _ rfl rfl).trans E37) (hK.out _ W ⟨HM, flow_vals hV rfl⟩)
              · intro L v W aAct hF hn hd hin hout K hK
                obtain ⟨HM, hV⟩ := hF
                have D38 : L 38 = true := hd ⟨38, Go.Ground.data⟩ (by simp) rfl
                have D32 : L 32 = true := hd ⟨32, Go.Ground.guard⟩ (by simp) rfl
                have E32 : v 32 = .bool false := hV 32 D32
                rw [if_pos (by rw [Inv.wanted_of (b := false) rfl rfl rfl ((hin 32 _ _ rfl rfl).trans E32)]; decide)]
                have E38 : v 38 = .pointer (some ⟨q, 0, none⟩) := hV 38 D38
                exact Inv.wp_fieldAddr (u := .pointer (some ⟨q, 5, none⟩)) rfl ((hin 38 _ _ rfl rfl).trans E38) (fun _ => by kernel_rfl) (hK.out _ W ⟨HM, flow_vals hV rfl⟩)
              · intro L v W aAct hF hn hd hin hout K hK
                obtain ⟨HM, hV⟩ := hF
                have D39 : L 39 = true := hd ⟨39, Go.Ground.data⟩ (by simp) rfl
                have D32 : L 32 = true := hd ⟨32, Go.Ground.guard⟩ (by simp) rfl
                have E32 : v 32 = .bool false := hV 32 D32
                rw [if_pos (by rw [Inv.wanted_of (b := false) rfl rfl rfl ((hin 32 _ _ rfl rfl).trans E32)]; decide)]
                have E39 : v 39 = .pointer (some ⟨q, 5, none⟩) := hV 39 D39
                exact Mem.wp_load_one HM rfl ((hin 39 _ _ rfl rfl).trans E39) (by kernel_rfl) (.inr (.tail _ (.head _))) rfl (hK.out _ W ⟨HM, flow_vals hV rfl⟩)
              · intro L v W aAct hF hn hd hin hout K hK
                obtain ⟨HM, hV⟩ := hF
                have D36 : L 36 = true := hd ⟨36, Go.Ground.data⟩ (by simp) rfl
                have D40 : L 40 = true := hd ⟨40, Go.Ground.data⟩ (by simp) rfl
                have D32 : L 32 = true := hd ⟨32, Go.Ground.guard⟩ (by simp) rfl
                have E32 : v 32 = .bool false := hV 32 D32
                rw [if_pos (by rw [Inv.wanted_of (b := false) rfl rfl rfl ((hin 32 _ _ rfl rfl).trans E32)]; decide)]
                have E36 : v 36 = .int .i64 f0 := hV 36 D36
                have E40 : v 40 = .int .i64 f1 := hV 40 D40
                exact Inv.wp_binop (u := .bool false) rfl ((hin 36 _ _ rfl rfl).trans E36) ((hin 40 _ _ rfl rfl).trans E40) (fun w => (run_neq_intE _ _ _ _ w).trans (by rw [n3])) (hK.out _ W ⟨HM, flow_vals hV rfl⟩)
              · intro L v W aAct hF hn hd hin hout K hK
                obtain ⟨HM, hV⟩ := hF
                have D32 : L 32 = true := hd ⟨32, Go.Ground.data⟩ (by simp) rfl
                have D41 : L 41 = true := hd ⟨41, Go.Ground.data⟩ (by simp) rfl
                rw [if_pos (by rfl)]
                have E32 : v 32 = .bool false := hV 32 D32
                have E41 : v 41 = .bool false := hV 41 D41
                exact Inv.wp_pick rfl ((hin 32 _ _ rfl rfl).trans E32) ((if_neg Bool.false_ne_true).trans ((hin 41 _ _ rfl rfl).trans E41)) (hK.out _ W ⟨HM, flow_vals hV rfl⟩)
              · intro L v W aAct hF hn hd hin hout K hK
                obtain ⟨HM, hV⟩ := hF
                have D42 : L 42 = true := hd ⟨42, Go.Ground.data⟩ (by simp) rfl
                rw [if_pos (by rfl)]
                have E42 : v 42 = .bool false := hV 42 D42
                exact Inv.wp_move (.inl rfl) ((hin 42 _ _ rfl rfl).trans E42) (hK.out _ W ⟨HM, flow_vals hV rfl⟩)
              · intro L v W aAct hF hn hd hin hout K hK
                obtain ⟨HM, hV⟩ := hF
                have D43 : L 43 = true := hd ⟨43, Go.Ground.guard⟩ (by simp) rfl
                have E43 : v 43 = .bool false := hV 43 D43
                rw [if_pos (by rw [Inv.wanted_of (b := false) rfl rfl rfl ((hin 43 _ _ rfl rfl).trans E43)]; decide)]
                exact Inv.wp_move (.inl rfl) ((hout 0 rfl).trans rfl) (hK.out _ W ⟨HM, flow_vals hV rfl⟩)
              · intro L v W aAct hF hn hd hin hout K hK
                obtain ⟨HM, hV⟩ := hF
                have D44 : L 44 = true := hd ⟨44, Go.Ground.data⟩ (by simp) rfl
                have D43 : L 43 = true := hd ⟨43, Go.Ground.guard⟩ (by simp) rfl
                have E43 : v 43 = .bool false := hV 43 D43
                rw [if_pos (by rw [Inv.wanted_of (b := false) rfl rfl rfl ((hin 43 _ _ rfl rfl).trans E43)]; decide)]
                have E44 : v 44 = .pointer (some ⟨p, 0, none⟩) := hV 44 D44
                exact Inv.wp_nilCheck rfl ((hin 44 _ _ rfl rfl).trans E44) (hK.out _ W ⟨HM, flow_vals hV rfl⟩)
              · intro L v W aAct hF hn hd hin hout K hK
                obtain ⟨HM, hV⟩ := hF
                have D45 : L 45 = true := hd ⟨45, Go.Ground.data⟩ (by simp) rfl
                have D43 : L 43 = true := hd ⟨43, Go.Ground.guard⟩ (by simp) rfl
                have E43 : v 43 = .bool false := hV 43 D43
                rw [if_pos (by rw [Inv.wanted_of (b := false) rfl rfl rfl ((hin 43 _ _ rfl rfl).trans E43)]; decide)]
                have E45 : v 45 = .pointer (some ⟨p, 0, none⟩) := hV 45 D45
                exact Inv.wp_fieldAddr (u := .pointer (some ⟨p, 6, none⟩)) rfl ((hin 45 _ _ rfl rfl).trans E45) (fun _ => by kernel_rfl) (hK.out _ W ⟨HM, flow_vals hV rfl⟩)
              · intro L v W aAct hF hn hd hin hout K hK
                obtain ⟨HM, hV⟩ := hF
                have D46 : L 46 = true := hd ⟨46, Go.Ground.data⟩ (by simp) rfl
                have D43 : L 43 = true := hd ⟨43, Go.Ground.guard⟩ (by simp) rfl
                have E43 : v 43 = .bool false := hV 43 D43
                rw [if_pos (by rw [Inv.wanted_of (b := false) rfl rfl rfl ((hin 43 _ _ rfl rfl).trans E43)]; decide)]
                have E46 : v 46 = .pointer (some ⟨p, 6, none⟩) := hV 46 D46
                exact Mem.wp_load_one HM rfl ((hin 46 _ _ rfl rfl).trans E46) (by kernel_rfl) (.inr (.head _)) rfl (hK.out _ W ⟨HM, flow_vals hV rfl⟩)
              · intro L v W aAct hF hn hd hin hout K hK
                obtain ⟨HM, hV⟩ := hF
                have D43 : L 43 = true := hd ⟨43, Go.Ground.guard⟩ (by simp) rfl
                have E43 : v 43 = .bool false := hV 43 D43
                rw [if_pos (by rw [Inv.wanted_of (b := false) rfl rfl rfl ((hin 43 _ _ rfl rfl).trans E43)]; decide)]
                exact Inv.wp_move (.inl rfl) ((hout 1 rfl).trans rfl) (hK.out _ W ⟨HM, flow_vals hV rfl⟩)
              · intro L v W aAct hF hn hd hin hout K hK
                obtain ⟨HM, hV⟩ := hF
                have D48 : L 48 = true := hd ⟨48, Go.Ground.data⟩ (by simp) rfl
                have D43 : L 43 = true := hd ⟨43, Go.Ground.guard⟩ (by simp) rfl
                have E43 : v 43 = .bool false := hV 43 D43
                rw [if_pos (by rw [Inv.wanted_of (b := false) rfl rfl rfl ((hin 43 _ _ rfl rfl).trans E43)]; decide)]
                have E48 : v 48 = .pointer (some ⟨q, 0, none⟩) := hV 48 D48
                exact Inv.wp_nilCheck rfl ((hin 48 _ _ rfl rfl).trans E48) (hK.out _ W ⟨HM, flow_vals hV rfl⟩)
              · intro L v W aAct hF hn hd hin hout K hK
                obtain ⟨HM, hV⟩ := hF
                have D49 : L 49 = true := hd ⟨49, Go.Ground.data⟩ (by simp) rfl
                have D43 : L 43 = true := hd ⟨43, Go.Ground.guard⟩ (by simp) rfl
                have E43 : v 43 = .bool false := hV 43 D43
                rw [if_pos (by rw [Inv.wanted_of (b := false) rfl rfl rfl ((hin 43 _ _ rfl rfl).trans E43)]; decide)]
                have E49 : v 49 = .pointer (some ⟨q, 0, none⟩) := hV 49 D49
                exact Inv.wp_fieldAddr (u := .pointer (some ⟨q, 6, none⟩)) rfl ((hin 49 _ _ rfl rfl).trans E49) (fun _ => by kernel_rfl) (hK.out _ W ⟨HM, flow_vals hV rfl⟩)
              · intro L v W aAct hF hn hd hin hout K hK
                obtain ⟨HM, hV⟩ := hF
                have D50 : L 50 = true := hd ⟨50, Go.Ground.data⟩ (by simp) rfl
                have D43 : L 43 = true := hd ⟨43, Go.Ground.guard⟩ (by simp) rfl
                have E43 : v 43 = .bool false := hV 43 D43
                rw [if_pos (by rw [Inv.wanted_of (b := false) rfl rfl rfl ((hin 43 _ _ rfl rfl).trans E43)]; decide)]
                have E50 : v 50 = .pointer (some ⟨q, 6, none⟩) := hV 50 D50
                exact Mem.wp_load_one HM rfl ((hin 50 _ _ rfl rfl).trans E50) (by kernel_rfl) (.inr (.tail _ (.head _))) rfl (hK.out _ W ⟨HM, flow_vals hV rfl⟩)
              · intro L v W aAct hF hn hd hin hout K hK
                obtain ⟨HM, hV⟩ := hF
                have D47 : L 47 = true := hd ⟨47, Go.Ground.data⟩ (by simp) rfl
                have D51 : L 51 = true := hd ⟨51, Go.Ground.data⟩ (by simp) rfl
                have D43 : L 43 = true := hd ⟨43, Go.Ground.chain⟩ (by simp) rfl
                have E43 : v 43 = .bool false := hV 43 D43
                rw [if_pos (by rw [Inv.wanted_of (b := false) rfl rfl rfl ((hin 43 _ _ rfl rfl).trans E43)]; decide)]
                have E47 : v 47 = .float .f32 h0 := hV 47 D47
                have E51 : v 51 = .float .f32 h1 := hV 51 D51
                refine Inv.wp_call rfl rfl rfl #[.float .f32 h0, .float .f32 h1] (by simp only [List.map_toArray, List.map_cons, List.map_nil, ((hin 47 _ _ rfl rfl).trans E47), ((hin 51 _ _ rfl rfl).trans E51)]) (by kernel_rfl) ((HN2.out _).mono ?_)
                rintro e W' ⟨_, rfl, rfl, hb⟩
                exact ⟨_, rfl, hK.out _ W' ⟨(HM.call hb), flow_vals hV rfl⟩⟩
              · intro L v W aAct hF hn hd hin hout K hK
                obtain ⟨HM, hV⟩ := hF
                have D52 : L 52 = true := hd ⟨52, Go.Ground.data⟩ (by simp) rfl
                have D43 : L 43 = true := hd ⟨43, Go.Ground.guard⟩ (by simp) rfl
                have E43 : v 43 = .bool false := hV 43 D43
                rw [if_pos (by rw [Inv.wanted_of (b := false) rfl rfl rfl ((hin 43 _ _ rfl rfl).trans E43)]; decide)]
                have E52 : v 52 = .bool true := hV 52 D52
                exact Inv.wp_unop (u := .bool false) rfl ((hin 52 _ _ rfl rfl).trans E52) (fun _ => rfl) (hK.out _ W ⟨HM, flow_vals hV rfl⟩)
              · intro L v W aAct hF hn hd hin hout K hK
                obtain ⟨HM, hV⟩ := hF
                have D43 : L 43 = true := hd ⟨43, Go.Ground.data⟩ (by simp) rfl
                have D53 : L 53 = true := hd ⟨53, Go.Ground.data⟩ (by simp) rfl
                rw [if_pos (by rfl)]
                have E43 : v 43 = .bool false := hV 43 D43
                have E53 : v 53 = .bool false := hV 53 D53
                exact Inv.wp_pick rfl ((hin 43 _ _ rfl rfl).trans E43) ((if_neg Bool.false_ne_true).trans ((hin 53 _ _ rfl rfl).trans E53)) (hK.out _ W ⟨HM, flow_vals hV rfl⟩)
              · intro L v W aAct hF hn hd hin hout K hK
                obtain ⟨HM, hV⟩ := hF
                have D54 : L 54 = true := hd ⟨54, Go.Ground.data⟩ (by simp) rfl
                rw [if_pos (by rfl)]
                have E54 : v 54 = .bool false := hV 54 D54
                exact Inv.wp_move (.inl rfl) ((hin 54 _ _ rfl rfl).trans E54) (hK.out _ W ⟨HM, flow_vals hV rfl⟩)
              · intro L v W aAct hF hn hd hin hout K hK
                obtain ⟨HM, hV⟩ := hF
                have D55 : L 55 = true := hd ⟨55, Go.Ground.guard⟩ (by simp) rfl
                have E55 : v 55 = .bool false := hV 55 D55
                rw [if_pos (by rw [Inv.wanted_of (b := false) rfl rfl rfl ((hin 55 _ _ rfl rfl).trans E55)]; decide)]
                exact Inv.wp_move (.inl rfl) ((hout 0 rfl).trans rfl) (hK.out _ W ⟨HM, flow_vals hV rfl⟩)
              · intro L v W aAct hF hn hd hin hout K hK
                obtain ⟨HM, hV⟩ := hF
                have D56 : L 56 = true := hd ⟨56, Go.Ground.data⟩ (by simp) rfl
                have D55 : L 55 = true := hd ⟨55, Go.Ground.guard⟩ (by simp) rfl
                have E55 : v 55 = .bool false := hV 55 D55
                rw [if_pos (by rw [Inv.wanted_of (b := false) rfl rfl rfl ((hin 55 _ _ rfl rfl).trans E55)]; decide)]
                have E56 : v 56 = .pointer (some ⟨p, 0, none⟩) := hV 56 D56
                exact Inv.wp_nilCheck rfl ((hin 56 _ _ rfl rfl).trans E56) (hK.out _ W ⟨HM, flow_vals hV rfl⟩)
              · intro L v W aAct hF hn hd hin hout K hK
                obtain ⟨HM, hV⟩ := hF
                have D57 : L 57 = true := hd ⟨57, Go.Ground.data⟩ (by simp) rfl
                have D55 : L 55 = true := hd ⟨55, Go.Ground.guard⟩ (by simp) rfl
                have E55 : v 55 = .bool false := hV 55 D55
                rw [if_pos (by rw [Inv.wanted_of (b := false) rfl rfl rfl ((hin 55 _ _ rfl rfl).trans E55)]; decide)]
                have E57 : v 57 = .pointer (some ⟨p, 0, none⟩) := hV 57 D57
                exact Inv.wp_fieldAddr (u := .pointer (some ⟨p, 7, none⟩)) rfl ((hin 57 _ _ rfl rfl).trans E57) (fun _ => by kernel_rfl) (hK.out _ W ⟨HM, flow_vals hV rfl⟩)
              · intro L v W aAct hF hn hd hin hout K hK
                obtain ⟨HM, hV⟩ := hF
                have D58 : L 58 = true := hd ⟨58, Go.Ground.data⟩ (by simp) rfl
                have D55 : L 55 = true := hd ⟨55, Go.Ground.guard⟩ (by simp) rfl
                have E55 : v 55 = .bool false := hV 55 D55
                rw [if_pos (by rw [Inv.wanted_of (b := false) rfl rfl rfl ((hin 55 _ _ rfl rfl).trans E55)]; decide)]
                have E58 : v 58 = .pointer (some ⟨p, 7, none⟩) := hV 58 D58
                exact Mem.wp_load_one HM rfl ((hin 58 _ _ rfl rfl).trans E58) (by kernel_rfl) (.inr (.head _)) rfl (hK.out _ W ⟨HM, flow_vals hV rfl⟩)
              · intro L v W aAct hF hn hd hin hout K hK
                obtain ⟨HM, hV⟩ := hF
                have D59 : L 59 = true := hd ⟨59, Go.Ground.data⟩ (by simp) rfl
                have D55 : L 55 = true := hd ⟨55, Go.Ground.guard⟩ (by simp) rfl
                have E55 : v 55 = .bool false := hV 55 D55
                rw [if_pos (by rw [Inv.wanted_of (b := false) rfl rfl rfl ((hin 55 _ _ rfl rfl).trans E55)]; decide)]
                have E59 : v 59 = .slice x0 z0.length y0 := hV 59 D59
                exact wp_len rfl rfl rfl rfl Try.underlying25 ((hin 59 _ _ rfl rfl).trans E59) (hK.out _ W ⟨HM, flow_vals hV rfl⟩)
              · intro L v W aAct hF hn hd hin hout K hK
                obtain ⟨HM, hV⟩ := hF
                have D55 : L 55 = true := hd ⟨55, Go.Ground.guard⟩ (by simp) rfl
                have E55 : v 55 = .bool false := hV 55 D55
                rw [if_pos (by rw [Inv.wanted_of (b := false) rfl rfl rfl ((hin 55 _ _ rfl rfl).trans E55)]; decide)]
                exact Inv.wp_move (.inl rfl) ((hout 1 rfl).trans rfl) (hK.out _ W ⟨HM, flow_vals hV rfl⟩)
              · intro L v W aAct hF hn hd hin hout K hK
                obtain ⟨HM, hV⟩ := hF
                have D61 : L 61 = true := hd ⟨61, Go.Ground.data⟩ (by simp) rfl
                have D55 : L 55 = true := hd ⟨55, Go.Ground.guard⟩ (by simp) rfl
                have E55 : v 55 = .bool false := hV 55 D55
                rw [if_pos (by rw [Inv.wanted_of (b := false) rfl rfl rfl ((hin 55 _ _ rfl rfl).trans E55)]; decide)]
                have E61 : v 61 = .pointer (some ⟨q, 0, none⟩) := hV 61 D61
                exact Inv.wp_nilCheck rfl ((hin 61 _ _ rfl rfl).trans E61) (hK.out _ W ⟨HM, flow_vals hV rfl⟩)
              · intro L v W aAct hF hn hd hin hout K hK
                obtain ⟨HM, hV⟩ := hF
                have D62 : L 62 = true := hd ⟨62, Go.Ground.data⟩ (by simp) rfl
                have D55 : L 55 = true := hd ⟨55, Go.Ground.guard⟩ (by simp) rfl
                have E55 : v 55 = .bool false := hV 55 D55
                rw [if_pos (by rw [Inv.wanted_of (b := false) rfl rfl rfl ((hin 55 _ _ rfl rfl).trans E55)]; decide)]
                have E62 : v 62 = .pointer (some ⟨q, 0, none⟩) := hV 62 D62
                exact Inv.wp_fieldAddr (u := .pointer (some ⟨q, 7, none⟩)) rfl ((hin 62 _ _ rfl rfl).trans E62) (fun _ => by kernel_rfl) (hK.out _ W ⟨HM, flow_vals hV rfl⟩)
              · intro L v W aAct hF hn hd hin hout K hK
                obtain ⟨HM, hV⟩ := hF
                have D63 : L 63 = true := hd ⟨63, Go.Ground.data⟩ (by simp) rfl
                have D55 : L 55 = true := hd ⟨55, Go.Ground.guard⟩ (by simp) rfl
                have E55 : v 55 = .bool false := hV 55 D55
                rw [if_pos (by rw [Inv.wanted_of (b := false) rfl rfl rfl ((hin 55 _ _ rfl rfl).trans E55)]; decide)]
                have E63 : v 63 = .pointer (some ⟨q, 7, none⟩) := hV 63 D63
                exact Mem.wp_load_one HM rfl ((hin 63 _ _ rfl rfl).trans E63) (by kernel_rfl) (.inr (.tail _ (.head _))) rfl (hK.out _ W ⟨HM, flow_vals hV rfl⟩)
              · intro L v W aAct hF hn hd hin hout K hK
                obtain ⟨HM, hV⟩ := hF
                have D64 : L 64 = true := hd ⟨64, Go.Ground.data⟩ (by simp) rfl
                have D55 : L 55 = true := hd ⟨55, Go.Ground.guard⟩ (by simp) rfl
                have E55 : v 55 = .bool false := hV 55 D55
                rw [if_pos (by rw [Inv.wanted_of (b := false) rfl rfl rfl ((hin 55 _ _ rfl rfl).trans E55)]; decide)]
                have E64 : v 64 = .slice x1 z1.length y1 := hV 64 D64
                exact wp_len rfl rfl rfl rfl Try.underlying25 ((hin 64 _ _ rfl rfl).trans E64) (hK.out _ W ⟨HM, flow_vals hV rfl⟩)
              · intro L v W aAct hF hn hd hin hout K hK
                obtain ⟨HM, hV⟩ := hF
                have D60 : L 60 = true := hd ⟨60, Go.Ground.data⟩ (by simp) rfl
                have D65 : L 65 = true := hd ⟨65, Go.Ground.data⟩ (by simp) rfl
                have D55 : L 55 = true := hd ⟨55, Go.Ground.guard⟩ (by simp) rfl
                have E55 : v 55 = .bool false := hV 55 D55
                rw [if_pos (by rw [Inv.wanted_of (b := false) rfl rfl rfl ((hin 55 _ _ rfl rfl).trans E55)]; decide)]
                have E60 : v 60 = .int .i64 z0.length := hV 60 D60
                have E65 : v 65 = .int .i64 z1.length := hV 65 D65
                exact Inv.wp_binop (u := .bool false) rfl ((hin 60 _ _ rfl rfl).trans E60) ((hin 65 _ _ rfl rfl).trans E65) (fun w => (run_neq_intE _ _ _ _ w).trans (by rw [n5])) (hK.out _ W ⟨HM, flow_vals hV rfl⟩)
              · intro L v W aAct hF hn hd hin hout K hK
                obtain ⟨HM, hV⟩ := hF
                have D55 : L 55 = true := hd ⟨55, Go.Ground.data⟩ (by simp) rfl
                have D66 : L 66 = true := hd ⟨66, Go.Ground.data⟩ (by simp) rfl
                rw [if_pos (by rfl)]
                have E55 : v 55 = .bool false := hV 55 D55
                have E66 : v 66 = .bool false := hV 66 D66
                exact Inv.wp_pick rfl ((hin 55 _ _ rfl rfl).trans E55) ((if_neg Bool.false_ne_true).trans ((hin 66 _ _ rfl rfl).trans E66)) (hK.out _ W ⟨HM, flow_vals hV rfl⟩)
              clear HM
              intro L v W2 hL hF
              obtain ⟨HM, hV⟩ := hF
              have E67 : v 67 = .bool false := hV 67 (hL 67 rfl)
              simp only [Inv.putAll, List.append, Act.put, List.setIfInBounds_toArray, List.set_cons_zero, List.set_cons_succ, E67]
              clear hV hL E67
              obtain ⟨W, hWW⟩ : ∃ W, W = W2 := ⟨_, rfl⟩; subst hWW
              have HL : Aside (z0.length = z1.length) := hl
              clear n5 hl n0 n2 n3 b0 b1 b2 b3 b4
              have HB1 : Aside (Mem w W [(p, [.int .i8 k0, .float .f32 a0.1, .float .f32 a0.2.1, .float .f32 a0.2.2, .int .i64 s0, .int .i64 f0, .float .f32 h0, .slice x0 z0.length y0]), (q, [.int .i8 k1, .float .f32 a1.1, .float .f32 a1.2.1, .float .f32 a1.2.2, .int .i64 s1, .int .i64 f1, .float .f32 h1, .slice x1 z1.length y1])] []) := HM
              clear HM
              go_wp2_with fail
              go_loopg [5] z0.length (fun k s5 wr => ∃ (i : Nat), s5 = .int .i64 i ∧ i + k = z0.length ∧ z0.take i = z1.take i ∧ Mem w wr [(p, [.int .i8 k0, .float .f32 a0.1, .float .f32 a0.2.1, .float .f32 a0.2.2, .int .i64 s0, .int .i64 f0, .float .f32 h0, .slice x0 z0.length y0]), (q, [.int .i8 k1, .float .f32 a1.1, .float .f32 a1.2.1, .float .f32 a1.2.2, .int .i64 s1, .int .i64 f1, .float .f32 h1, .slice x1 z1.length y1])] [])
              · exact ⟨0, rfl, by omega, rfl, HB1.out⟩
              · obtain ⟨i, rfl, hik, ht, HB⟩ := hrel
                have B : Aside (i + gk = z0.length ∧ z0.take i = z1.take i ∧ Mem w wr [(p, [.int .i8 k0, .float .f32 a0.1, .float .f32 a0.2.1, .float .f32 a0.2.2, .int .i64 s0, .int .i64 f0, .float .f32 h0, .slice x0 z0.length y0]), (q, [.int .i8 k1, .float .f32 a1.1, .float .f32 a1.2.1, .float .f32 a1.2.2, .int .i64 s1, .int .i64 f1, .float .f32 h1, .slice x1 z1.length y1])] []) := ⟨hik, ht, HB⟩
                have d7 := Mem.cellOld HB (.head _) 7 _ rfl
                have d15 := Mem.cellOld HB (.tail _ (.head _)) 7 _ rfl
                by_cases hi : i < z0.length
                · obtain ⟨m, hm⟩ : ∃ m, z0[i]? = some m := ⟨z0[i], List.getElem?_eq_getElem hi⟩
                  obtain ⟨o, ho⟩ : ∃ o, z1[i]? = some o := ⟨z1[i]'(by have := HL.out; omega), List.getElem?_eq_getElem _⟩
                  obtain ⟨c3, c7, g3, hb3, hc3⟩ := (A.out.1.below HB.below).at (rI_get hm)
                  obtain ⟨c4, c8, g4, hb4, hc4⟩ := (A.out.2.1.below HB.below).at (rI_get ho)
                  rw [rI_len] at g3 g4
                  cases g3
                  cases g4
                  rw [Nat.mul_one] at hb3 hb4
                  have hi' : (i : Int) < (z0.length : Int) := by omega
                  have hi2 : (i : Int) < (z1.length : Int) := by have := HL.out; omega
                  have hi0 : (0 : Int) ≤ (i : Int) := Int.natCast_nonneg _
                  have P1 : Aside (z0[i]? = some m ∧ z1[i]? = some o) := ⟨hm, ho⟩
                  have x5 := hc3 0 _ rfl
                  have x6 := hc4 0 _ rfl
                  rw [Nat.mul_one] at x5 x6
                  have hK8 : ∀ W, Bel wr W → (W.cell? ⟨p, 7, none⟩ = some (.slice (some c3) z0.length y0) ∧ W.cell? ⟨q, 7, none⟩ = some (.slice (some c4) z1.length y1)) ∧ W.cell? (c3.add i) = some (.int .i16 m) ∧ W.cell? (c4.add i) = some (.int .i16 o) ∧ Bel wr W := fun W hW =>
                    ⟨⟨Mem.cellOld (HB.call hW.out) (.head _) 7 _ rfl, Mem.cellOld (HB.call hW.out) (.tail _ (.head _)) 7 _ rfl⟩, by rw [hW.out.cell hb3]; exact x5, by rw [hW.out.cell hb4]; exact x6, hW⟩
                  clear hm ho hik ht HB hb3 hb4 hc3 hc4 x5 x6
                  by_cases hmo : m = o
                  · have e5 : (m != o) = false := by simp [hmo]
                    have HMO : Aside (m = o) := hmo
                    clear hmo
                    go_wp2_with fail
                    go_region_held3 (fun W => (W.cell? ⟨p, 7, none⟩ = some (.slice (some c3) z0.length y0) ∧ W.cell? ⟨q, 7, none⟩ = some (.slice (some c4) z1.length y1)) ∧ W.cell? (c3.add i) = some (.int .i16 m) ∧ W.cell? (c4.add i) = some (.int .i16 o) ∧ Bel wr W) (first | (with_reducible assumption) | (refine hK8 _ ?_; (repeat' (first | (with_reducible exact Bel.refl _) | (with_reducible assumption) | (with_reducible exact And.right (And.right (And.right (by assumption)))) | (with_reducible refine Bel.drew ?_))); done) | go_keep) (first | fail)
                    all_goals go_wp2_with fail
                    obtain ⟨hik, ht, HB⟩ := B.out
                    go_roundg (gk - 1)
                    · refine ⟨i + 1, ?_, by omega, (take_eq_step P1.out.1 P1.out.2 ht).2 HMO.out, HB.call (Bel.out (And.right (And.right (And.right (by assumption)))))⟩
                      first
                        | (congr 1; done)
                        | (congr 1; have := A.out.2.2; unfold wrap64; omega)
                    · omega
                  · have e5 : (m != o) = true := by simp [hmo]
                    have HMO : Aside (¬ m = o) := hmo
                    clear hmo
                    go_wp2_with fail
                    go_region_held3 (fun W => (W.cell? ⟨p, 7, none⟩ = some (.slice (some c3) z0.length y0) ∧ W.cell? ⟨q, 7, none⟩ = some (.slice (some c4) z1.length y1)) ∧ W.cell? (c3.add i) = some (.int .i16 m) ∧ W.cell? (c4.add i) = some (.int .i16 o) ∧ Bel wr W) (first | (with_reducible assumption) | (refine hK8 _ ?_; (repeat' (first | (with_reducible exact Bel.refl _) | (with_reducible assumption) | (with_reducible exact And.right (And.right (And.right (by assumption)))) | (with_reducible refine Bel.drew ?_))); done) | go_keep) (first | fail)
                    all_goals go_wp2_with fail
                    obtain ⟨hik, ht, HB⟩ := B.out
                    have hne2 : z0 ≠ z1 := fun e => HMO.out (by
                      have h1 : z0[i]? = some o := by rw [e]; exact P1.out.2
                      exact Option.some.inj (P1.out.1.symm.trans h1))
                    simp [bodyPost, results, Try.results16, go_sem]
                    exact ⟨_, rfl, by rw [HR.out, decide_eq_false hne2]; exact rfl, (HB.call (Bel.out (And.right (And.right (And.right (by assumption)))))).below⟩
                · have hi' : ¬ ((i : Int) < (z0.length : Int)) := by omega
                  have hie : i = z0.length := by omega
                  have he : z0 = z1 := by
                    have h5 := HL.out
                    rw [hie, List.take_of_length_le (Nat.le_refl _), List.take_of_length_le (by omega)] at ht
                    exact ht
                  have HE : Aside (z0 = z1) := he
                  clear he ht hie HB
                  go_wp2_with fail
                  simp [bodyPost, results, Try.results16, go_sem]
                  exact ⟨_, rfl, by rw [HR.out, decide_eq_true HE.out]; exact rfl, B.out.2.2.below⟩
            · have n5 : ((z0.length : Int) != (z1.length : Int)) = true := by simp; omega
              have HL : Aside (¬ z0.length = z1.length) := hl
              clear hl
              go_enter Try.func16, Try.ntmps16
              go_wp2_with fail
              refine Inv.wp_region_flow (F := fun L v W => Mem w W [(p, [.int .i8 k0, .float .f32 a0.1, .float .f32 a0.2.1, .float .f32 a0.2.2, .int .i64 s0, .int .i64 f0, .float .f32 h0, .slice x0 z0.length y0]), (q, [.int .i8 k1, .float .f32 a1.1, .float .f32 a1.2.1, .float .f32 a1.2.2, .int .i64 s1, .int .i64 f1, .float .f32 h1, .slice x1 z1.length y1])] [] ∧ ∀ j, L j = true → v j = ([.pointer (some ⟨p, 0, none⟩), .pointer (some ⟨p, 0, none⟩), .pointer (some ⟨p, 0, none⟩), .int .i8 k0, .pointer (some ⟨q, 0, none⟩), .pointer (some ⟨q, 0, none⟩), .pointer (some ⟨q, 0, none⟩), .int .i8 k1, .bool false, .bool false, .pointer (some ⟨p, 0, none⟩), .pointer (some ⟨p, 0, none⟩), .pointer (some ⟨p, 1, none⟩), .agg #[.float .f32 a0.1, .float .f32 a0.2.1, .float .f32 a0.2.2], .pointer (some ⟨q, 0, none⟩), .pointer (some ⟨q, 0, none⟩), .pointer (some ⟨q, 1, none⟩), .agg #[.float .f32 a1.1, .float .f32 a1.2.1, .float .f32 a1.2.2], .bool true, .bool false, .bool false, .bool false, .pointer (some ⟨p, 0, none⟩), .pointer (some ⟨p, 0, none⟩), .pointer (some ⟨p, 4, none⟩), .int .i64 s0, .pointer (some ⟨q, 0, none⟩), .pointer (some ⟨q, 0, none⟩), .pointer (some ⟨q, 4, none⟩), .int .i64 s1, .bool false, .bool false, .bool false, .pointer (some ⟨p, 0, none⟩), .pointer (some ⟨p, 0, none⟩), .pointer (some ⟨p, 5, none⟩), .int .i64 f0, .pointer (some ⟨q, 0, none⟩), .pointer (some ⟨q, 0, none⟩), .pointer (some ⟨q, 5, none⟩), .int .i64 f1, .bool false, .bool false, .bool false, .pointer (some ⟨p, 0, none⟩), .pointer (some ⟨p, 0, none⟩), .pointer (some ⟨p, 6, none⟩), .float .f32 h0, .pointer (some ⟨q, 0, none⟩), .pointer (some ⟨q, 0, none⟩), .pointer (some ⟨q, 6, none⟩), .float .f32 h1, .bool true, .bool false, .bool false, .bool false, .pointer (some ⟨p, 0, none⟩), .pointer (some ⟨p, 0, none⟩), .pointer (some ⟨p, 7, none⟩), .slice x0 z0.length y0, .int .i64 z0.length, .pointer (some ⟨q, 0, none⟩), .pointer (some ⟨q, 0, none⟩), .pointer (some ⟨q, 7, none⟩), .slice x1 z1.length y1, .int .i64 z1.length, .bool true, .bool true] : List Value).getD j undef) (by kernel_rfl) (by kernel_rfl) (by kernel_rfl) (fun v => ⟨HM.drew, fun j h => absurd h Bool.false_ne_true⟩) ⟨?_, ?_, ?_, ?_, ?_, ?_, ?_, ?_, ?_, ?_, ?_, ?_, ?_, ?_, ?_, ?_, ?_, ?_, ?_, ?_, ?_, ?_, ?_, ?_, ?_, ?_, ?_, ?_, ?_, ?_, ?_, ?_, ?_, ?_, ?_, ?_, ?_, ?_, ?_, ?_, ?_, ?_, ?_, ?_, ?_, ?_, ?_, ?_, ?_, ?_, ?_, ?_, ?_, ?_, ?_, ?_, ?_, ?_, ?_, ?_, ?_, ?_, ?_, ?_, ?_, ?_, ?_, ?_, trivial⟩ ?_
              · intro L v W aAct hF hn hd hin hout K hK
                obtain ⟨HM, hV⟩ := hF
                rw [if_pos (by rfl)]
                exact Inv.wp_move (.inl rfl) ((hout 0 rfl).trans rfl) (hK.out _ W ⟨HM, flow_vals hV rfl⟩)
              · intro L v W aAct hF hn hd hin hout K hK
                obtain ⟨HM, hV⟩ := hF
                have D0 : L 0 = true := hd ⟨0, Go.Ground.data⟩ (by simp) rfl
                rw [if_pos (by rfl)]
                have E0 : v 0 = .pointer (some ⟨p, 0, none⟩) := hV 0 D0
                exact Inv.wp_nilCheck rfl ((hin 0 _ _ rfl rfl).trans E0) (hK.out _ W ⟨HM, flow_vals hV rfl⟩)
              · intro L v W aAct hF hn hd hin hout K hK
                obtain ⟨HM, hV⟩ := hF
                have D1 : L 1 = true := hd ⟨1, Go.Ground.data⟩ (by simp) rfl
                rw [if_pos (by rfl)]
                have E1 : v 1 = .pointer (some ⟨p, 0, none⟩) := hV 1 D1
                exact Inv.wp_fieldAddr (u := .pointer (some ⟨p, 0, none⟩)) rfl ((hin 1 _ _ rfl rfl).trans E1) (fun _ => by kernel_rfl) (hK.out _ W ⟨HM, flow_vals hV rfl⟩)
              · intro L v W aAct hF hn hd hin hout K hK
                obtain ⟨HM, hV⟩ := hF
                have D2 : L 2 = true := hd ⟨2, Go.Ground.data⟩ (by simp) rfl
                rw [if_pos (by rfl)]
                have E2 : v 2 = .pointer (some ⟨p, 0, none⟩) := hV 2 D2
                exact Mem.wp_load_one HM rfl ((hin 2 _ _ rfl rfl).trans E2) (by kernel_rfl) (.inr (.head _)) rfl (hK.out _ W ⟨HM, flow_vals hV rfl⟩)
              · intro L v W aAct hF hn hd hin hout K hK
                obtain ⟨HM, hV⟩ := hF
                rw [if_pos (by rfl)]
                exact Inv.wp_move (.inl rfl) ((hout 1 rfl).trans rfl) (hK.out _ W ⟨HM, flow_vals hV rfl⟩)
              · intro L v W aAct hF hn hd hin hout K hK
                obtain ⟨HM, hV⟩ := hF
                have D4 : L 4 = true := hd ⟨4, Go.Ground.data⟩ (by simp) rfl
                rw [if_pos (by rfl)]
                have E4 : v 4 = .pointer (some ⟨q, 0, none⟩) := hV 4 D4
                exact Inv.wp_nilCheck rfl ((hin 4 _ _ rfl rfl).trans E4) (hK.out _ W ⟨HM, flow_vals hV rfl⟩)
              · intro L v W aAct hF hn hd hin hout K hK
                obtain ⟨HM, hV⟩ := hF
                have D5 : L 5 = true := hd ⟨5, Go.Ground.data⟩ (by simp) rfl
                rw [if_pos (by rfl)]
                have E5 : v 5 = .pointer (some ⟨q, 0, none⟩) := hV 5 D5
                exact Inv.wp_fieldAddr (u := .pointer (some ⟨q, 0, none⟩)) rfl ((hin 5 _ _ rfl rfl).trans E5) (fun _ => by kernel_rfl) (hK.out _ W ⟨HM, flow_vals hV rfl⟩)
              · intro L v W aAct hF hn hd hin hout K hK
                obtain ⟨HM, hV⟩ := hF
                have D6 : L 6 = true := hd ⟨6, Go.Ground.data⟩ (by simp) rfl
                rw [if_pos (by rfl)]
                have E6 : v 6 = .pointer (some ⟨q, 0, none⟩) := hV 6 D6
                exact Mem.wp_load_one HM rfl ((hin 6 _ _ rfl rfl).trans E6) (by kernel_rfl) (.inr (.tail _ (.head _))) rfl (hK.out _ W ⟨HM, flow_vals hV rfl⟩)
              · intro L v W aAct hF hn hd hin hout K hK
                obtain ⟨HM, hV⟩ := hF
                have D3 : L 3 = true := hd ⟨3, Go.Ground.data⟩ (by simp) rfl
                have D7 : L 7 = true := hd ⟨7, Go.Ground.data⟩ (by simp) rfl
                rw [if_pos (by rfl)]
                have E3 : v 3 = .int .i8 k0 := hV 3 D3
                have E7 : v 7 = .int .i8 k1 := hV 7 D7
                exact Inv.wp_binop (u := .bool false) rfl ((hin 3 _ _ rfl rfl).trans E3) ((hin 7 _ _ rfl rfl).trans E7) (fun w => (run_neq_intE _ _ _ _ w).trans (by rw [n0])) (hK.out _ W ⟨HM, flow_vals hV rfl⟩)
              · intro L v W aAct hF hn hd hin hout K hK
                obtain ⟨HM, hV⟩ := hF
                have D8 : L 8 = true := hd ⟨8, Go.Ground.data⟩ (by simp) rfl
                rw [if_pos (by rfl)]
                have E8 : v 8 = .bool false := hV 8 D8
                exact Inv.wp_move (.inl rfl) ((hin 8 _ _ rfl rfl).trans E8) (hK.out _ W ⟨HM, flow_vals hV rfl⟩)
              · intro L v W aAct hF hn hd hin hout K hK
                obtain ⟨HM, hV⟩ := hF
                have D9 : L 9 = true := hd ⟨9, Go.Ground.guard⟩ (by simp) rfl
                have E9 : v 9 = .bool false := hV 9 D9
                rw [if_pos (by rw [Inv.wanted_of (b := false) rfl rfl rfl ((hin 9 _ _ rfl rfl).trans E9)]; decide)]
                exact Inv.wp_move (.inl rfl) ((hout 0 rfl).trans rfl) (hK.out _ W ⟨HM, flow_vals hV rfl⟩)
              · intro L v W aAct hF hn hd hin hout K hK
                obtain ⟨HM, hV⟩ := hF
                have D10 : L 10 = true := hd ⟨10, Go.Ground.data⟩ (by simp) rfl
                have D9 : L 9 = true := hd ⟨9, Go.Ground.guard⟩ (by simp) rfl
                have E9 : v 9 = .bool false := hV 9 D9
                rw [if_pos (by rw [Inv.wanted_of (b := false) rfl rfl rfl ((hin 9 _ _ rfl rfl).trans E9)]; decide)]
                have E10 : v 10 = .pointer (some ⟨p, 0, none⟩) := hV 10 D10
                exact Inv.wp_nilCheck rfl ((hin 10 _ _ rfl rfl).trans E10) (hK.out _ W ⟨HM, flow_vals hV rfl⟩)
              · intro L v W aAct hF hn hd hin hout K hK
                obtain ⟨HM, hV⟩ := hF
                have D11 : L 11 = true := hd ⟨11, Go.Ground.data⟩ (by simp) rfl
                have D9 : L 9 = true := hd ⟨9, Go.Ground.guard⟩ (by simp) rfl
                have E9 : v 9 = .bool false := hV 9 D9
                rw [if_pos (by rw [Inv.wanted_of (b := false) rfl rfl rfl ((hin 9 _ _ rfl rfl).trans E9)]; decide)]
                have E11 : v 11 = .pointer (some ⟨p, 0, none⟩) := hV 11 D11
                exact Inv.wp_fieldAddr (u := .pointer (some ⟨p, 1, none⟩)) rfl ((hin 11 _ _ rfl rfl).trans E11) (fun _ => by kernel_rfl) (hK.out _ W ⟨HM, flow_vals hV rfl⟩)
              · intro L v W aAct hF hn hd hin hout K hK
                obtain ⟨HM, hV⟩ := hF
                have D12 : L 12 = true := hd ⟨12, Go.Ground.data⟩ (by simp) rfl
                have D9 : L 9 = true := hd ⟨9, Go.Ground.guard⟩ (by simp) rfl
                have E9 : v 9 = .bool false := hV 9 D9
                rw [if_pos (by rw [Inv.wanted_of (b := false) rfl rfl rfl ((hin 9 _ _ rfl rfl).trans E9)]; decide)]
                have E12 : v 12 = .pointer (some ⟨p, 1, none⟩) := hV 12 D12
                exact Mem.wp_load_row HM 3 rfl ((hin 12 _ _ rfl rfl).trans E12) (by kernel_rfl) (.inr (.head _)) rfl rfl (hK.out _ W ⟨HM, flow_vals hV rfl⟩)
              · intro L v W aAct hF hn hd hin hout K hK
                obtain ⟨HM, hV⟩ := hF
                have D9 : L 9 = true := hd ⟨9, Go.Ground.guard⟩ (by simp) rfl
                have E9 : v 9 = .bool false := hV 9 D9
                rw [if_pos (by rw [Inv.wanted_of (b := false) rfl rfl rfl ((hin 9 _ _ rfl rfl).trans E9)]; decide)]
                exact Inv.wp_move (.inl rfl) ((hout 1 rfl).trans rfl) (hK.out _ W ⟨HM, flow_vals hV rfl⟩)
              · intro L v W aAct hF hn hd hin hout K hK
                obtain ⟨HM, hV⟩ := hF
                have D14 : L 14 = true := hd ⟨14, Go.Ground.data⟩ (by simp) rfl
                have D9 : L 9 = true := hd ⟨9, Go.Ground.guard⟩ (by simp) rfl
                have E9 : v 9 = .bool false := hV 9 D9
                rw [if_pos (by rw [Inv.wanted_of (b := false) rfl rfl rfl ((hin 9 _ _ rfl rfl).trans E9)]; decide)]
                have E14 : v 14 = .pointer (some ⟨q, 0, none⟩) := hV 14 D14
                exact Inv.wp_nilCheck rfl ((hin 14 _ _ rfl rfl).trans E14) (hK.out _ W ⟨HM, flow_vals hV rfl⟩)
              · intro L v W aAct hF hn hd hin hout K hK
                obtain ⟨HM, hV⟩ := hF
                have D15 : L 15 = true := hd ⟨15, Go.Ground.data⟩ (by simp) rfl
                have D9 : L 9 = true := hd ⟨9, Go.Ground.guard⟩ (by simp) rfl
                have E9 : v 9 = .bool false := hV 9 D9
                rw [if_pos (by rw [Inv.wanted_of (b := false) rfl rfl rfl ((hin 9 _ _ rfl rfl).trans E9)]; decide)]
                have E15 : v 15 = .pointer (some ⟨q, 0, none⟩) := hV 15 D15
                exact Inv.wp_fieldAddr (u := .pointer (some ⟨q, 1, none⟩)) rfl ((hin 15 _ _ rfl rfl).trans E15) (fun _ => by kernel_rfl) (hK.out _ W ⟨HM, flow_vals hV rfl⟩)
              · intro L v W aAct hF hn hd hin hout K hK
                obtain ⟨HM, hV⟩ := hF
                have D16 : L 16 = true := hd ⟨16, Go.Ground.data⟩ (by simp) rfl
                have D9 : L 9 = true := hd ⟨9, Go.Ground.guard⟩ (by simp) rfl
                have E9 : v 9 = .bool false := hV 9 D9
                rw [if_pos (by rw [Inv.wanted_of (b := false) rfl rfl rfl ((hin 9 _ _ rfl rfl).trans E9)]; decide)]
                have E16 : v 16 = .pointer (some ⟨q, 1, none⟩) := hV 16 D16
                exact Mem.wp_load_row HM 3 rfl ((hin 16 _ _ rfl rfl).trans E16) (by kernel_rfl) (.inr (.tail _ (.head _))) rfl rfl (hK.out _ W ⟨HM, flow_vals hV rfl⟩)
              · intro L v W aAct hF hn hd hin hout K hK
                obtain ⟨HM, hV⟩ := hF
                have D13 : L 13 = true := hd ⟨13, Go.Ground.data⟩ (by simp) rfl
                have D17 : L 17 = true := hd ⟨17, Go.Ground.data⟩ (by simp) rfl
                have D9 : L 9 = true := hd ⟨9, Go.Ground.chain⟩ (by simp) rfl
                have E9 : v 9 = .bool false := hV 9 D9
                rw [if_pos (by rw [Inv.wanted_of (b := false) rfl rfl rfl ((hin 9 _ _ rfl rfl).trans E9)]; decide)]
                have E13 : v 13 = .agg #[.float .f32 a0.1, .float .f32 a0.2.1, .float .f32 a0.2.2] := hV 13 D13
                have E17 : v 17 = .agg #[.float .f32 a1.1, .float .f32 a1.2.1, .float .f32 a1.2.2] := hV 17 D17
                refine Inv.wp_call rfl rfl rfl #[.agg #[.float .f32 a0.1, .float .f32 a0.2.1, .float .f32 a0.2.2], .agg #[.float .f32 a1.1, .float .f32 a1.2.1, .float .f32 a1.2.2]] (by simp only [List.map_toArray, List.map_cons, List.map_nil, ((hin 13 _ _ rfl rfl).trans E13), ((hin 17 _ _ rfl rfl).trans E17)]) (by kernel_rfl) ((HP2.out _).mono ?_)
                rintro e W' ⟨_, rfl, rfl, hb⟩
                exact ⟨_, rfl, hK.out _ W' ⟨(HM.call hb), flow_vals hV rfl⟩⟩
              · intro L v W aAct hF hn hd hin hout K hK
                obtain ⟨HM, hV⟩ := hF
                have D18 : L 18 = true := hd ⟨18, Go.Ground.data⟩ (by simp) rfl
                have D9 : L 9 = true := hd ⟨9, Go.Ground.guard⟩ (by simp) rfl
                have E9 : v 9 = .bool false := hV 9 D9
                rw [if_pos (by rw [Inv.wanted_of (b := false) rfl rfl rfl ((hin 9 _ _ rfl rfl).trans E9)]; decide)]
                have E18 : v 18 = .bool true := hV 18 D18
                exact Inv.wp_unop (u := .bool false) rfl ((hin 18 _ _ rfl rfl).trans E18) (fun _ => rfl) (hK.out _ W ⟨HM, flow_vals hV rfl⟩)
              · intro L v W aAct hF hn hd hin hout K hK
                obtain ⟨HM, hV⟩ := hF
                have D9 : L 9 = true := hd ⟨9, Go.Ground.data⟩ (by simp) rfl
                have D19 : L 19 = true := hd ⟨19, Go.Ground.data⟩ (by simp) rfl
                rw [if_pos (by rfl)]
                have E9 : v 9 = .bool false := hV 9 D9
                have E19 : v 19 = .bool false := hV 19 D19
                exact Inv.wp_pick rfl ((hin 9 _ _ rfl rfl).trans E9) ((if_neg Bool.false_ne_true).trans ((hin 19 _ _ rfl rfl).trans E19)) (hK.out _ W ⟨HM, flow_vals hV rfl⟩)
              · intro L v W aAct hF hn hd hin hout K hK
                obtain ⟨HM, hV⟩ := hF
                have D20 : L 20 = true := hd ⟨20, Go.Ground.data⟩ (by simp) rfl
                rw [if_pos (by rfl)]
                have E20 : v 20 = .bool false := hV 20 D20
                exact Inv.wp_move (.inl rfl) ((hin 20 _ _ rfl rfl).trans E20) (hK.out _ W ⟨HM, flow_vals hV rfl⟩)
              · intro L v W aAct hF hn hd hin hout K hK
                obtain ⟨HM, hV⟩ := hF
                have D21 : L 21 = true := hd ⟨21, Go.Ground.guard⟩ (by simp) rfl
                have E21 : v 21 = .bool false := hV 21 D21
                rw [if_pos (by rw [Inv.wanted_of (b := false) rfl rfl rfl ((hin 21 _ _ rfl rfl).trans E21)]; decide)]
                exact Inv.wp_move (.inl rfl) ((hout 0 rfl).trans rfl) (hK.out _ W ⟨HM, flow_vals hV rfl⟩)
              · intro L v W aAct hF hn hd hin hout K hK
                obtain ⟨HM, hV⟩ := hF
                have D22 : L 22 = true := hd ⟨22, Go.Ground.data⟩ (by simp) rfl
                have D21 : L 21 = true := hd ⟨21, Go.Ground.guard⟩ (by simp) rfl
                have E21 : v 21 = .bool false := hV 21 D21
                rw [if_pos (by rw [Inv.wanted_of (b := false) rfl rfl rfl ((hin 21 _ _ rfl rfl).trans E21)]; decide)]
                have E22 : v 22 = .pointer (some ⟨p, 0, none⟩) := hV 22 D22
                exact Inv.wp_nilCheck rfl ((hin 22 _ _ rfl rfl).trans E22) (hK.out _ W ⟨HM, flow_vals hV rfl⟩)
              · intro L v W aAct hF hn hd hin hout K hK
                obtain ⟨HM, hV⟩ := hF
                have D23 : L 23 = true := hd ⟨23, Go.Ground.data⟩ (by simp) rfl
                have D21 : L 21 = true := hd ⟨21, Go.Ground.guard⟩ (by simp) rfl
                have E21 : v 21 = .bool false := hV 21 D21
                rw [if_pos (by rw [Inv.wanted_of (b := false) rfl rfl rfl ((hin 21 _ _ rfl rfl).trans E21)]; decide)]
                have E23 : v 23 = .pointer (some ⟨p, 0, none⟩) := hV 23 D23
                exact Inv.wp_fieldAddr (u := .pointer (some ⟨p, 4, none⟩)) rfl ((hin 23 _ _ rfl rfl).trans E23) (fun _ => by kernel_rfl) (hK.out _ W ⟨HM, flow_vals hV rfl⟩)
              · intro L v W aAct hF hn hd hin hout K hK
                obtain ⟨HM, hV⟩ := hF
                have D24 : L 24 = true := hd ⟨24, Go.Ground.data⟩ (by simp) rfl
                have D21 : L 21 = true := hd ⟨21, Go.Ground.guard⟩ (by simp) rfl
                have E21 : v 21 = .bool false := hV 21 D21
                rw [if_pos (by rw [Inv.wanted_of (b := false) rfl rfl rfl ((hin 21 _ _ rfl rfl).trans E21)]; decide)]
                have E24 : v 24 = .pointer (some ⟨p, 4, none⟩) := hV 24 D24
                exact Mem.wp_load_one HM rfl ((hin 24 _ _ rfl rfl).trans E24) (by kernel_rfl) (.inr (.head _)) rfl (hK.out _ W ⟨HM, flow_vals hV rfl⟩)
              · intro L v W aAct hF hn hd hin hout K hK
                obtain ⟨HM, hV⟩ := hF
                have D21 : L 21 = true := hd ⟨21, Go.Ground.guard⟩ (by simp) rfl
                have E21 : v 21 = .bool false := hV 21 D21
                rw [if_pos (by rw [Inv.wanted_of (b := false) rfl rfl rfl ((hin 21 _ _ rfl rfl).trans E21)]; decide)]
                exact Inv.wp_move (.inl rfl) ((hout 1 rfl).trans rfl) (hK.out _ W ⟨HM, flow_vals hV rfl⟩)
              · intro L v W aAct hF hn hd hin hout K hK
                obtain ⟨HM, hV⟩ := hF
                have D26 : L 26 = true := hd ⟨26, Go.Ground.data⟩ (by simp) rfl
                have D21 : L 21 = true := hd ⟨21, Go.Ground.guard⟩ (by simp) rfl
                have E21 : v 21 = .bool false := hV 21 D21
                rw [if_pos (by rw [Inv.wanted_of (b := false) rfl rfl rfl ((hin 21 _ _ rfl rfl).trans E21)]; decide)]
                have E26 : v 26 = .pointer (some ⟨q, 0, none⟩) := hV 26 D26
                exact Inv.wp_nilCheck rfl ((hin 26 _ _ rfl rfl).trans E26) (hK.out _ W ⟨HM, flow_vals hV rfl⟩)
              · intro L v W aAct hF hn hd hin hout K hK
                obtain ⟨HM, hV⟩ := hF
                have D27 : L 27 = true := hd ⟨27, Go.Ground.data⟩ (by simp) rfl
                have D21 : L 21 = true := hd ⟨21, Go.Ground.guard⟩ (by simp) rfl
                have E21 : v 21 = .bool false := hV 21 D21
                rw [if_pos (by rw [Inv.wanted_of (b := false) rfl rfl rfl ((hin 21 _ _ rfl rfl).trans E21)]; decide)]
                have E27 : v 27 = .pointer (some ⟨q, 0, none⟩) := hV 27 D27
                exact Inv.wp_fieldAddr (u := .pointer (some ⟨q, 4, none⟩)) rfl ((hin 27 _ _ rfl rfl).trans E27) (fun _ => by kernel_rfl) (hK.out _ W ⟨HM, flow_vals hV rfl⟩)
              · intro L v W aAct hF hn hd hin hout K hK
                obtain ⟨HM, hV⟩ := hF
                have D28 : L 28 = true := hd ⟨28, Go.Ground.data⟩ (by simp) rfl
                have D21 : L 21 = true := hd ⟨21, Go.Ground.guard⟩ (by simp) rfl
                have E21 : v 21 = .bool false := hV 21 D21
                rw [if_pos (by rw [Inv.wanted_of (b := false) rfl rfl rfl ((hin 21 _ _ rfl rfl).trans E21)]; decide)]
                have E28 : v 28 = .pointer (some ⟨q, 4, none⟩) := hV 28 D28
                exact Mem.wp_load_one HM rfl ((hin 28 _ _ rfl rfl).trans E28) (by kernel_rfl) (.inr (.tail _ (.head _))) rfl (hK.out _ W ⟨HM, flow_vals hV rfl⟩)
              · intro L v W aAct hF hn hd hin hout K hK
                obtain ⟨HM, hV⟩ := hF
                have D25 : L 25 = true := hd ⟨25, Go.Ground.data⟩ (by simp) rfl
                have D29 : L 29 = true := hd ⟨29, Go.Ground.data⟩ (by simp) rfl
                have D21 : L 21 = true := hd ⟨21, Go.Ground.guard⟩ (by simp) rfl
                have E21 : v 21 = .bool false := hV 21 D21
                rw [if_pos (by rw [Inv.wanted_of (b := false) rfl rfl rfl ((hin 21 _ _ rfl rfl).trans E21)]; decide)]
                have E25 : v 25 = .int .i64 s0 := hV 25 D25
                have E29 : v 29 = .int .i64 s1 := hV 29 D29
                exact Inv.wp_binop (u := .bool false) rfl ((hin 25 _ _ rfl rfl).trans E25) ((hin 29 _ _ rfl rfl).trans E29) (fun w => (run_neq_intE _ _ _ _ w).trans (by rw [n2])) (hK.out _ W ⟨HM, flow_vals hV rfl⟩)
              · intro L v W aAct hF hn hd hin hout K hK
                obtain ⟨HM, hV⟩ := hF
                have D21 : L 21 = true := hd ⟨21, Go.Ground.data⟩ (by simp) rfl
                have D30 : L 30 = true := hd ⟨30, Go.Ground.data⟩ (by simp) rfl
                rw [if_pos (by rfl)]
                have E21 : v 21 = .bool false := hV 21 D21
                have E30 : v 30 = .bool false := hV 30 D30
                exact Inv.wp_pick rfl ((hin 21 _ _ rfl rfl).trans E21) ((if_neg Bool.false_ne_true).trans ((hin 30 _ _ rfl rfl).trans E30)) (hK.out _ W ⟨HM, flow_vals hV rfl⟩)
              · intro L v W aAct hF hn hd hin hout K hK
                obtain ⟨HM, hV⟩ := hF
                have D31 : L 31 = true := hd ⟨31, Go.Ground.data⟩ (by simp) rfl
                rw [if_pos (by rfl)]
                have E31 : v 31 = .bool false := hV 31 D31
                exact Inv.wp_move (.inl rfl) ((hin 31 _ _ rfl rfl).trans E31) (hK.out _ W ⟨HM, flow_vals hV rfl⟩)
              · intro L v W aAct hF hn hd hin hout K hK
                obtain ⟨HM, hV⟩ := hF
                have D32 : L 32 = true := hd ⟨32, Go.Ground.guard⟩ (by simp) rfl
                have E32 : v 32 = .bool false := hV 32 D32
                rw [if_pos (by rw [Inv.wanted_of (b := false) rfl rfl rfl ((hin 32 _ _ rfl rfl).trans E32)]; decide)]
                exact Inv.wp_move (.inl rfl) ((hout 0 rfl).trans rfl) (hK.out _ W ⟨HM, flow_vals hV rfl⟩)
              · intro L v W aAct hF hn hd hin hout K hK
                obtain ⟨HM, hV⟩ := hF
                have D33 : L 33 = true := hd ⟨33, Go.Ground.data⟩ (by simp) rfl
                have D32 : L 32 = true := hd ⟨32, Go.Ground.guard⟩ (by simp) rfl
                have E32 : v 32 = .bool false := hV 32 D32
                rw [if_pos (by rw [Inv.wanted_of (b := false) rfl rfl rfl ((hin 32 _ _ rfl rfl).trans E32)]; decide)]
                have E33 : v 33 = .pointer (some ⟨p, 0, none⟩) := hV 33 D33
                exact Inv.wp_nilCheck rfl ((hin 33 _ _ rfl rfl).trans E33) (hK.out _ W ⟨HM, flow_vals hV rfl⟩)
              · intro L v W aAct hF hn hd hin hout K hK
                obtain ⟨HM, hV⟩ := hF
                have D34 : L 34 = true := hd ⟨34, Go.Ground.data⟩ (by simp) rfl
                have D32 : L 32 = true := hd ⟨32, Go.Ground.guard⟩ (by simp) rfl
                have E32 : v 32 = .bool false := hV 32 D32
                rw [if_pos (by rw [Inv.wanted_of (b := false) rfl rfl rfl ((hin 32 _ _ rfl rfl).trans E32)]; decide)]
                have E34 : v 34 = .pointer (some ⟨p, 0, none⟩) := hV 34 D34
                exact Inv.wp_fieldAddr (u := .pointer (some ⟨p, 5, none⟩)) rfl ((hin 34 _ _ rfl rfl).trans E34) (fun _ => by kernel_rfl) (hK.out _ W ⟨HM, flow_vals hV rfl⟩)
              · intro L v W aAct hF hn hd hin hout K hK
                obtain ⟨HM, hV⟩ := hF
                have D35 : L 35 = true := hd ⟨35, Go.Ground.data⟩ (by simp) rfl
                have D32 : L 32 = true := hd ⟨32, Go.Ground.guard⟩ (by simp) rfl
                have E32 : v 32 = .bool false := hV 32 D32
                rw [if_pos (by rw [Inv.wanted_of (b := false) rfl rfl rfl ((hin 32 _ _ rfl rfl).trans E32)]; decide)]
                have E35 : v 35 = .pointer (some ⟨p, 5, none⟩) := hV 35 D35
                exact Mem.wp_load_one HM rfl ((hin 35 _ _ rfl rfl).trans E35) (by kernel_rfl) (.inr (.head _)) rfl (hK.out _ W ⟨HM, flow_vals hV rfl⟩)
              · intro L v W aAct hF hn hd hin hout K hK
                obtain ⟨HM, hV⟩ := hF
                have D32 : L 32 = true := hd ⟨32, Go.Ground.guard⟩ (by simp) rfl
                have E32 : v 32 = .bool false := hV 32 D32
                rw [if_pos (by rw [Inv.wanted_of (b := false) rfl rfl rfl ((hin 32 _ _ rfl rfl).trans E32)]; decide)]
                exact Inv.wp_move (.inl rfl) ((hout 1 rfl).trans rfl) (hK.out _ W ⟨HM, flow_vals hV rfl⟩)
              · intro L v W aAct hF hn hd hin hout K hK
                obtain ⟨HM, hV⟩ := hF
                have D37 : L 37 = true := hd ⟨37, Go.Ground.data⟩ (by simp) rfl
                have D32 : L 32 = true := hd ⟨32, Go.Ground.guard⟩ (by simp) rfl
                have E32 : v 32 = .bool false := hV 32 D32
                rw [if_pos (by rw [Inv.wanted_of (b := false) rfl rfl rfl ((hin 32 _ _ rfl rfl).trans E32)]; decide)]
                have E37 : v 37 = .pointer (some ⟨q, 0, none⟩) := hV 37 D37
                exact Inv.wp_nilCheck rfl ((hin 37 _ _ rfl rfl).trans E37) (hK.out _ W ⟨HM, flow_vals hV rfl⟩)
              · intro L v W aAct hF hn hd hin hout K hK
                obtain ⟨HM, hV⟩ := hF
                have D38 : L 38 = true := hd ⟨38, Go.Ground.data⟩ (by simp) rfl
                have D32 : L 32 = true := hd ⟨32, Go.Ground.guard⟩ (by simp) rfl
                have E32 : v 32 = .bool false := hV 32 D32
                rw [if_pos (by rw [Inv.wanted_of (b := false) rfl rfl rfl ((hin 32 _ _ rfl rfl).trans E32)]; decide)]
                have E38 : v 38 = .pointer (some ⟨q, 0, none⟩) := hV 38 D38
                exact Inv.wp_fieldAddr (u := .pointer (some ⟨q, 5, none⟩)) rfl ((hin 38 _ _ rfl rfl).trans E38) (fun _ => by kernel_rfl) (hK.out _ W ⟨HM, flow_vals hV rfl⟩)
              · intro L v W aAct hF hn hd hin hout K hK
                obtain ⟨HM, hV⟩ := hF
                have D39 : L 39 = true := hd ⟨39, Go.Ground.data⟩ (by simp) rfl
                have D32 : L 32 = true := hd ⟨32, Go.Ground.guard⟩ (by simp) rfl
                have E32 : v 32 = .bool false := hV 32 D32
                rw [if_pos (by rw [Inv.wanted_of (b := false) rfl rfl rfl ((hin 32 _ _ rfl rfl).trans E32)]; decide)]
                have E39 : v 39 = .pointer (some ⟨q, 5, none⟩) := hV 39 D39
                exact Mem.wp_load_one HM rfl ((hin 39 _ _ rfl rfl).trans E39) (by kernel_rfl) (.inr (.tail _ (.head _))) rfl (hK.out _ W ⟨HM, flow_vals hV rfl⟩)
              · intro L v W aAct hF hn hd hin hout K hK
                obtain ⟨HM, hV⟩ := hF
                have D36 : L 36 = true := hd ⟨36, Go.Ground.data⟩ (by simp) rfl
                have D40 : L 40 = true := hd ⟨40, Go.Ground.data⟩ (by simp) rfl
                have D32 : L 32 = true := hd ⟨32, Go.Ground.guard⟩ (by simp) rfl
                have E32 : v 32 = .bool false := hV 32 D32
                rw [if_pos (by rw [Inv.wanted_of (b := false) rfl rfl rfl ((hin 32 _ _ rfl rfl).trans E32)]; decide)]
                have E36 : v 36 = .int .i64 f0 := hV 36 D36
                have E40 : v 40 = .int .i64 f1 := hV 40 D40
                exact Inv.wp_binop (u := .bool false) rfl ((hin 36 _ _ rfl rfl).trans E36) ((hin 40 _ _ rfl rfl).trans E40) (fun w => (run_neq_intE _ _ _ _ w).trans (by rw [n3])) (hK.out _ W ⟨HM, flow_vals hV rfl⟩)
              · intro L v W aAct hF hn hd hin hout K hK
                obtain ⟨HM, hV⟩ := hF
                have D32 : L 32 = true := hd ⟨32, Go.Ground.data⟩ (by simp) rfl
                have D41 : L 41 = true := hd ⟨41, Go.Ground.data⟩ (by simp) rfl
                rw [if_pos (by rfl)]
                have E32 : v 32 = .bool false := hV 32 D32
                have E41 : v 41 = .bool false := hV 41 D41
                exact Inv.wp_pick rfl ((hin 32 _ _ rfl rfl).trans E32) ((if_neg Bool.false_ne_true).trans ((hin 41 _ _ rfl rfl).trans E41)) (hK.out _ W ⟨HM, flow_vals hV rfl⟩)
              · intro L v W aAct hF hn hd hin hout K hK
                obtain ⟨HM, hV⟩ := hF
                have D42 : L 42 = true := hd ⟨42, Go.Ground.data⟩ (by simp) rfl
                rw [if_pos (by rfl)]
                have E42 : v 42 = .bool false := hV 42 D42
                exact Inv.wp_move (.inl rfl) ((hin 42 _ _ rfl rfl).trans E42) (hK.out _ W ⟨HM, flow_vals hV rfl⟩)
              · intro L v W aAct hF hn hd hin hout K hK
                obtain ⟨HM, hV⟩ := hF
                have D43 : L 43 = true := hd ⟨43, Go.Ground.guard⟩ (by simp) rfl
                have E43 : v 43 = .bool false := hV 43 D43
                rw [if_pos (by rw [Inv.wanted_of (b := false) rfl rfl rfl ((hin 43 _ _ rfl rfl).trans E43)]; decide)]
                exact Inv.wp_move (.inl rfl) ((hout 0 rfl).trans rfl) (hK.out _ W ⟨HM, flow_vals hV rfl⟩)
              · intro L v W aAct hF hn hd hin hout K hK
                obtain ⟨HM, hV⟩ := hF
                have D44 : L 44 = true := hd ⟨44, Go.Ground.data⟩ (by simp) rfl
                have D43 : L 43 = true := hd ⟨43, Go.Ground.guard⟩ (by simp) rfl
                have E43 : v 43 = .bool false := hV 43 D43
                rw [if_pos (by rw [Inv.wanted_of (b := false) rfl rfl rfl ((hin 43 _ _ rfl rfl).trans E43)]; decide)]
                have E44 : v 44 = .pointer (some ⟨p, 0, none⟩) := hV 44 D44
                exact Inv.wp_nilCheck rfl ((hin 44 _ _ rfl rfl).trans E44) (hK.out _ W ⟨HM, flow_vals hV rfl⟩)
              · intro L v W aAct hF hn hd hin hout K hK
                obtain ⟨HM, hV⟩ := hF
                have D45 : L 45 = true := hd ⟨45, Go.Ground.data⟩ (by simp) rfl
                have D43 : L 43 = true := hd ⟨43, Go.Ground.guard⟩ (by simp) rfl
                have E43 : v 43 = .bool false := hV 43 D43
                rw [if_pos (by rw [Inv.wanted_of (b := false) rfl rfl rfl ((hin 43 _ _ rfl rfl).trans E43)]; decide)]
                have E45 : v 45 = .pointer (some ⟨p, 0, none⟩) := hV 45 D45
                exact Inv.wp_fieldAddr (u := .pointer (some ⟨p, 6, none⟩)) rfl ((hin 45 _ _ rfl rfl).trans E45) (fun _ => by kernel_rfl) (hK.out _ W ⟨HM, flow_vals hV rfl⟩)
              · intro L v W aAct hF hn hd hin hout K hK
                obtain ⟨HM, hV⟩ := hF
                have D46 : L 46 = true := hd ⟨46, Go.Ground.data⟩ (by simp) rfl
                have D43 : L 43 = true := hd ⟨43, Go.Ground.guard⟩ (by simp) rfl
                have E43 : v 43 = .bool false := hV 43 D43
                rw [if_pos (by rw [Inv.wanted_of (b := false) rfl rfl rfl ((hin 43 _ _ rfl rfl).trans E43)]; decide)]
                have E46 : v 46 = .pointer (some ⟨p, 6, none⟩) := hV 46 D46
                exact Mem.wp_load_one HM rfl ((hin 46 _ _ rfl rfl).trans E46) (by kernel_rfl) (.inr (.head _)) rfl (hK.out _ W ⟨HM, flow_vals hV rfl⟩)
              · intro L v W aAct hF hn hd hin hout K hK
                obtain ⟨HM, hV⟩ := hF
                have D43 : L 43 = true := hd ⟨43, Go.Ground.guard⟩ (by simp) rfl
                have E43 : v 43 = .bool false := hV 43 D43
                rw [if_pos (by rw [Inv.wanted_of (b := false) rfl rfl rfl ((hin 43 _ _ rfl rfl).trans E43)]; decide)]
                exact Inv.wp_move (.inl rfl) ((hout 1 rfl).trans rfl) (hK.out _ W ⟨HM, flow_vals hV rfl⟩)
              · intro L v W aAct hF hn hd hin hout K hK
                obtain ⟨HM, hV⟩ := hF
                have D48 : L 48 = true := hd ⟨48, Go.Ground.data⟩ (by simp) rfl
                have D43 : L 43 = true := hd ⟨43, Go.Ground.guard⟩ (by simp) rfl
                have E43 : v 43 = .bool false := hV 43 D43
                rw [if_pos (by rw [Inv.wanted_of (b := false) rfl rfl rfl ((hin 43 _ _ rfl rfl).trans E43)]; decide)]
                have E48 : v 48 = .pointer (some ⟨q, 0, none⟩) := hV 48 D48
                exact Inv.wp_nilCheck rfl ((hin 48 _ _ rfl rfl).trans E48) (hK.out _ W ⟨HM, flow_vals hV rfl⟩)
              · intro L v W aAct hF hn hd hin hout K hK
                obtain ⟨HM, hV⟩ := hF
                have D49 : L 49 = true := hd ⟨49, Go.Ground.data⟩ (by simp) rfl
                have D43 : L 43 = true := hd ⟨43, Go.Ground.guard⟩ (by simp) rfl
                have E43 : v 43 = .bool false := hV 43 D43
                rw [if_pos (by rw [Inv.wanted_of (b := false) rfl rfl rfl ((hin 43 _ _ rfl rfl).trans E43)]; decide)]
                have E49 : v 49 = .pointer (some ⟨q, 0, none⟩) := hV 49 D49
                exact Inv.wp_fieldAddr (u := .pointer (some ⟨q, 6, none⟩)) rfl ((hin 49 _ _ rfl rfl).trans E49) (fun _ => by kernel_rfl) (hK.out _ W ⟨HM, flow_vals hV rfl⟩)
              · intro L v W aAct hF hn hd hin hout K hK
                obtain ⟨HM, hV⟩ := hF
                have D50 : L 50 = true := hd ⟨50, Go.Ground.data⟩ (by simp) rfl
                have D43 : L 43 = true := hd ⟨43, Go.Ground.guard⟩ (by simp) rfl
                have E43 : v 43 = .bool false := hV 43 D43
                rw [if_pos (by rw [Inv.wanted_of (b := false) rfl rfl rfl ((hin 43 _ _ rfl rfl).trans E43)]; decide)]
                have E50 : v 50 = .pointer (some ⟨q, 6, none⟩) := hV 50 D50
                exact Mem.wp_load_one HM rfl ((hin 50 _ _ rfl rfl).trans E50) (by kernel_rfl) (.inr (.tail _ (.head _))) rfl (hK.out _ W ⟨HM, flow_vals hV rfl⟩)
              · intro L v W aAct hF hn hd hin hout K hK
                obtain ⟨HM, hV⟩ := hF
                have D47 : L 47 = true := hd ⟨47, Go.Ground.data⟩ (by simp) rfl
                have D51 : L 51 = true := hd ⟨51, Go.Ground.data⟩ (by simp) rfl
                have D43 : L 43 = true := hd ⟨43, Go.Ground.chain⟩ (by simp) rfl
                have E43 : v 43 = .bool false := hV 43 D43
                rw [if_pos (by rw [Inv.wanted_of (b := false) rfl rfl rfl ((hin 43 _ _ rfl rfl).trans E43)]; decide)]
                have E47 : v 47 = .float .f32 h0 := hV 47 D47
                have E51 : v 51 = .float .f32 h1 := hV 51 D51
                refine Inv.wp_call rfl rfl rfl #[.float .f32 h0, .float .f32 h1] (by simp only [List.map_toArray, List.map_cons, List.map_nil, ((hin 47 _ _ rfl rfl).trans E47), ((hin 51 _ _ rfl rfl).trans E51)]) (by kernel_rfl) ((HN2.out _).mono ?_)
                rintro e W' ⟨_, rfl, rfl, hb⟩
                exact ⟨_, rfl, hK.out _ W' ⟨(HM.call hb), flow_vals hV rfl⟩⟩
              · intro L v W aAct hF hn hd hin hout K hK
                obtain ⟨HM, hV⟩ := hF
                have D52 : L 52 = true := hd ⟨52, Go.Ground.data⟩ (by simp) rfl
                have D43 : L 43 = true := hd ⟨43, Go.Ground.guard⟩ (by simp) rfl
                have E43 : v 43 = .bool false := hV 43 D43
                rw [if_pos (by rw [Inv.wanted_of (b := false) rfl rfl rfl ((hin 43 _ _ rfl rfl).trans E43)]; decide)]
                have E52 : v 52 = .bool true := hV 52 D52
                exact Inv.wp_unop (u := .bool false) rfl ((hin 52 _ _ rfl rfl).trans E52) (fun _ => rfl) (hK.out _ W ⟨HM, flow_vals hV rfl⟩)
              · intro L v W aAct hF hn hd hin hout K hK
                obtain ⟨HM, hV⟩ := hF
                have D43 : L 43 = true := hd ⟨43, Go.Ground.data⟩ (by simp) rfl
                have D53 : L 53 = true := hd ⟨53, Go.Ground.data⟩ (by simp) rfl
                rw [if_pos (by rfl)]
                have E43 : v 43 = .bool false := hV 43 D43
                have E53 : v 53 = .bool false := hV 53 D53
                exact Inv.wp_pick rfl ((hin 43 _ _ rfl rfl).trans E43) ((if_neg Bool.false_ne_true).trans ((hin 53 _ _ rfl rfl).trans E53)) (hK.out _ W ⟨HM, flow_vals hV rfl⟩)
              · intro L v W aAct hF hn hd hin hout K hK
                obtain ⟨HM, hV⟩ := hF
                have D54 : L 54 = true := hd ⟨54, Go.Ground.data⟩ (by simp) rfl
                rw [if_pos (by rfl)]
                have E54 : v 54 = .bool false := hV 54 D54
                exact Inv.wp_move (.inl rfl) ((hin 54 _ _ rfl rfl).trans E54) (hK.out _ W ⟨HM, flow_vals hV rfl⟩)
              · intro L v W aAct hF hn hd hin hout K hK
                obtain ⟨HM, hV⟩ := hF
                have D55 : L 55 = true := hd ⟨55, Go.Ground.guard⟩ (by simp) rfl
                have E55 : v 55 = .bool false := hV 55 D55
                rw [if_pos (by rw [Inv.wanted_of (b := false) rfl rfl rfl ((hin 55 _ _ rfl rfl).trans E55)]; decide)]
                exact Inv.wp_move (.inl rfl) ((hout 0 rfl).trans rfl) (hK.out _ W ⟨HM, flow_vals hV rfl⟩)
              · intro L v W aAct hF hn hd hin hout K hK
                obtain ⟨HM, hV⟩ := hF
                have D56 : L 56 = true := hd ⟨56, Go.Ground.data⟩ (by simp) rfl
                have D55 : L 55 = true := hd ⟨55, Go.Ground.guard⟩ (by simp) rfl
                have E55 : v 55 = .bool false := hV 55 D55
                rw [if_pos (by rw [Inv.wanted_of (b := false) rfl rfl rfl ((hin 55 _ _ rfl rfl).trans E55)]; decide)]
                have E56 : v 56 = .pointer (some ⟨p, 0, none⟩) := hV 56 D56
                exact Inv.wp_nilCheck rfl ((hin 56 _ _ rfl rfl).trans E56) (hK.out _ W ⟨HM, flow_vals hV rfl⟩)
              · intro L v W aAct hF hn hd hin hout K hK
                obtain ⟨HM, hV⟩ := hF
                have D57 : L 57 = true := hd ⟨57, Go.Ground.data⟩ (by simp) rfl
                have D55 : L 55 = true := hd ⟨55, Go.Ground.guard⟩ (by simp) rfl
                have E55 : v 55 = .bool false := hV 55 D55
                rw [if_pos (by rw [Inv.wanted_of (b := false) rfl rfl rfl ((hin 55 _ _ rfl rfl).trans E55)]; decide)]
                have E57 : v 57 = .pointer (some ⟨p, 0, none⟩) := hV 57 D57
                exact Inv.wp_fieldAddr (u := .pointer (some ⟨p, 7, none⟩)) rfl ((hin 57 _ _ rfl rfl).trans E57) (fun _ => by kernel_rfl) (hK.out _ W ⟨HM, flow_vals hV rfl⟩)
              · intro L v W aAct hF hn hd hin hout K hK
                obtain ⟨HM, hV⟩ := hF
                have D58 : L 58 = true := hd ⟨58, Go.Ground.data⟩ (by simp) rfl
                have D55 : L 55 = true := hd ⟨55, Go.Ground.guard⟩ (by simp) rfl
                have E55 : v 55 = .bool false := hV 55 D55
                rw [if_pos (by rw [Inv.wanted_of (b := false) rfl rfl rfl ((hin 55 _ _ rfl rfl).trans E55)]; decide)]
                have E58 : v 58 = .pointer (some ⟨p, 7, none⟩) := hV 58 D58
                exact Mem.wp_load_one HM rfl ((hin 58 _ _ rfl rfl).trans E58) (by kernel_rfl) (.inr (.head _)) rfl (hK.out _ W ⟨HM, flow_vals hV rfl⟩)
              · intro L v W aAct hF hn hd hin hout K hK
                obtain ⟨HM, hV⟩ := hF
                have D59 : L 59 = true := hd ⟨59, Go.Ground.data⟩ (by simp) rfl
                have D55 : L 55 = true := hd ⟨55, Go.Ground.guard⟩ (by simp) rfl
                have E55 : v 55 = .bool false := hV 55 D55
                rw [if_pos (by rw [Inv.wanted_of (b := false) rfl rfl rfl ((hin 55 _ _ rfl rfl).trans E55)]; decide)]
                have E59 : v 59 = .slice x0 z0.length y0 := hV 59 D59
                exact wp_len rfl rfl rfl rfl Try.underlying25 ((hin 59 _ _ rfl rfl).trans E59) (hK.out _ W ⟨HM, flow_vals hV rfl⟩)
              · intro L v W aAct hF hn hd hin hout K hK
                obtain ⟨HM, hV⟩ := hF
                have D55 : L 55 = true := hd ⟨55, Go.Ground.guard⟩ (by simp) rfl
                have E55 : v 55 = .bool false := hV 55 D55
                rw [if_pos (by rw [Inv.wanted_of (b := false) rfl rfl rfl ((hin 55 _ _ rfl rfl).trans E55)]; decide)]
                exact Inv.wp_move (.inl rfl) ((hout 1 rfl).trans rfl) (hK.out _ W ⟨HM, flow_vals hV rfl⟩)
              · intro L v W aAct hF hn hd hin hout K hK
                obtain ⟨HM, hV⟩ := hF
                have D61 : L 61 = true := hd ⟨61, Go.Ground.data⟩ (by simp) rfl
                have D55 : L 55 = true := hd ⟨55, Go.Ground.guard⟩ (by simp) rfl
                have E55 : v 55 = .bool false := hV 55 D55
                rw [if_pos (by rw [Inv.wanted_of (b := false) rfl rfl rfl ((hin 55 _ _ rfl rfl).trans E55)]; decide)]
                have E61 : v 61 = .pointer (some ⟨q, 0, none⟩) := hV 61 D61
                exact Inv.wp_nilCheck rfl ((hin 61 _ _ rfl rfl).trans E61) (hK.out _ W ⟨HM, flow_vals hV rfl⟩)
              · intro L v W aAct hF hn hd hin hout K hK
                obtain ⟨HM, hV⟩ := hF
                have D62 : L 62 = true := hd ⟨62, Go.Ground.data⟩ (by simp) rfl
                have D55 : L 55 = true := hd ⟨55, Go.Ground.guard⟩ (by simp) rfl
                have E55 : v 55 = .bool false := hV 55 D55
                rw [if_pos (by rw [Inv.wanted_of (b := false) rfl rfl rfl ((hin 55 _ _ rfl rfl).trans E55)]; decide)]
                have E62 : v 62 = .pointer (some ⟨q, 0, none⟩) := hV 62 D62
                exact Inv.wp_fieldAddr (u := .pointer (some ⟨q, 7, none⟩)) rfl ((hin 62 _ _ rfl rfl).trans E62) (fun _ => by kernel_rfl) (hK.out _ W ⟨HM, flow_vals hV rfl⟩)
              · intro L v W aAct hF hn hd hin hout K hK
                obtain ⟨HM, hV⟩ := hF
                have D63 : L 63 = true := hd ⟨63, Go.Ground.data⟩ (by simp) rfl
                have D55 : L 55 = true := hd ⟨55, Go.Ground.guard⟩ (by simp) rfl
                have E55 : v 55 = .bool false := hV 55 D55
                rw [if_pos (by rw [Inv.wanted_of (b := false) rfl rfl rfl ((hin 55 _ _ rfl rfl).trans E55)]; decide)]
                have E63 : v 63 = .pointer (some ⟨q, 7, none⟩) := hV 63 D63
                exact Mem.wp_load_one HM rfl ((hin 63 _ _ rfl rfl).trans E63) (by kernel_rfl) (.inr (.tail _ (.head _))) rfl (hK.out _ W ⟨HM, flow_vals hV rfl⟩)
              · intro L v W aAct hF hn hd hin hout K hK
                obtain ⟨HM, hV⟩ := hF
                have D64 : L 64 = true := hd ⟨64, Go.Ground.data⟩ (by simp) rfl
                have D55 : L 55 = true := hd ⟨55, Go.Ground.guard⟩ (by simp) rfl
                have E55 : v 55 = .bool false := hV 55 D55
                rw [if_pos (by rw [Inv.wanted_of (b := false) rfl rfl rfl ((hin 55 _ _ rfl rfl).trans E55)]; decide)]
                have E64 : v 64 = .slice x1 z1.length y1 := hV 64 D64
                exact wp_len rfl rfl rfl rfl Try.underlying25 ((hin 64 _ _ rfl rfl).trans E64) (hK.out _ W ⟨HM, flow_vals hV rfl⟩)
              · intro L v W aAct hF hn hd hin hout K hK
                obtain ⟨HM, hV⟩ := hF
                have D60 : L 60 = true := hd ⟨60, Go.Ground.data⟩ (by simp) rfl
                have D65 : L 65 = true := hd ⟨65, Go.Ground.data⟩ (by simp) rfl
                have D55 : L 55 = true := hd ⟨55, Go.Ground.guard⟩ (by simp) rfl
                have E55 : v 55 = .bool false := hV 55 D55
                rw [if_pos (by rw [Inv.wanted_of (b := false) rfl rfl rfl ((hin 55 _ _ rfl rfl).trans E55)]; decide)]
                have E60 : v 60 = .int .i64 z0.length := hV 60 D60
                have E65 : v 65 = .int .i64 z1.length := hV 65 D65
                exact Inv.wp_binop (u := .bool true) rfl ((hin 60 _ _ rfl rfl).trans E60) ((hin 65 _ _ rfl rfl).trans E65) (fun w => (run_neq_intE _ _ _ _ w).trans (by rw [n5])) (hK.out _ W ⟨HM, flow_vals hV rfl⟩)
              · intro L v W aAct hF hn hd hin hout K hK
                obtain ⟨HM, hV⟩ := hF
                have D55 : L 55 = true := hd ⟨55, Go.Ground.data⟩ (by simp) rfl
                have D66 : L 66 = true := hd ⟨66, Go.Ground.data⟩ (by simp) rfl
                rw [if_pos (by rfl)]
                have E55 : v 55 = .bool false := hV 55 D55
                have E66 : v 66 = .bool true := hV 66 D66
                exact Inv.wp_pick rfl ((hin 55 _ _ rfl rfl).trans E55) ((if_neg Bool.false_ne_true).trans ((hin 66 _ _ rfl rfl).trans E66)) (hK.out _ W ⟨HM, flow_vals hV rfl⟩)
              clear HM
              intro L v W2 hL hF
              obtain ⟨HM, hV⟩ := hF
              have E67 : v 67 = .bool true := hV 67 (hL 67 rfl)
              simp only [Inv.putAll, List.append, Act.put, List.setIfInBounds_toArray, List.set_cons_zero, List.set_cons_succ, E67]
              clear hV hL E67
              obtain ⟨W, hWW⟩ : ∃ W, W = W2 := ⟨_, rfl⟩; subst hWW
              go_wp2_with fail
              simp [bodyPost, results, Try.results16, go_sem]
              exact ⟨_, rfl, by rw [HR.out, decide_eq_false (fun e => HL.out (by rw [e]))]; exact rfl, HM.below⟩
--## d
end Go.Proofs.Ytpainjecdolgiaa
