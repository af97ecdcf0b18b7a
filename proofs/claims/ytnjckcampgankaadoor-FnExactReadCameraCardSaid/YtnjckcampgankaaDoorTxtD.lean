/- Contracts: points read from their texts. -/
import Derived.Test.YtnjckcampgankaaDoorTxtC
import Derived.StillTailTactics
import Derived.RegionTactic
namespace Go.Proofs.YtnjckcampgankaaDoor
open Go.ChangeShapes Go.WideShapes Go.ChangeAt Go.RowKit Go.Flo Go.Mem
set_option linter.unusedSimpArgs false
set_option linter.unusedVariables false
def ptR (ws : List ByteArray) : Option (Nat × Nat × Nat) := match numsV ws with
  | some [x, y, z] => if plainP (cp x y z) = true then some (x, y, z) else none
  | _ => none
def isRP (o : Option (Nat × Nat × Nat)) (v : Value) : Prop := match o with
  | some (x, y, z) => v = .tuple #[.agg #[.float .f32 x, .float .f32 y, .float .f32 z], .int .i64 0]
  | none => v = .tuple #[.agg #[.float .f32 0, .float .f32 0, .float .f32 0], .int .i64 5]
theorem ptR_none {ws : List ByteArray} (h : numsV ws = none) : ptR ws = none := by unfold ptR; rw [h]
theorem ptR_len {ws : List ByteArray} {ns : List Nat} (h : numsV ws = some ns) (hl : ns.length ≠ 3) : ptR ws = none := by
  unfold ptR; rw [h]
  split
  · rename_i x y z e; cases e; simp at hl
  · rfl
theorem ptR_three {ws : List ByteArray} {x y z : Nat} (h : numsV ws = some [x, y, z]) : ptR ws = if plainP (cp x y z) = true then some (x, y, z) else none := by unfold ptR; rw [h]
theorem three {ns : List Nat} (h : ns.length = 3) : ∃ x y z, ns = [x, y, z] := by
  match ns, h with
  | [x, y, z], _ => exact ⟨x, y, z, rfl⟩
theorem rls3 {w : World} {u : Value} {x y z : Nat} (h : Rls 1 w u (rF [x, y, z])) : ∃ b c, u = .slice (some b) 3 c ∧ b.block < w.heap.size ∧ w.cell? b = some (.float .f32 x) ∧ w.cell? ⟨b.block, b.off + 1, none⟩ = some (.float .f32 y) ∧ w.cell? ⟨b.block, b.off + 2, none⟩ = some (.float .f32 z) := by
  obtain ⟨b, c, rfl, h0, h1⟩ := h.at (i := 0) rfl
  obtain ⟨b1, c1, e1, _, h2⟩ := h.at (i := 1) rfl
  obtain ⟨b2, c2, e2, _, h3⟩ := h.at (i := 2) rfl
  cases e1; cases e2
  have hz : (b.add (0 * 1)).add 0 = b := by simp [Addr.add]
  have h0' : b.block < w.heap.size := by rw [add_block'] at h0; exact h0
  refine ⟨b, c, rfl, h0', ?_, ?_, ?_⟩
  · have := h1 0 _ rfl; rwa [hz] at this
  · have := h2 0 _ rfl
    have e : (b.add (1 * 1)).add 0 = ⟨b.block, b.off + 1, none⟩ := by simp [Addr.add]
    rwa [e] at this
  · have := h3 0 _ rfl
    have e : (b.add (2 * 1)).add 0 = ⟨b.block, b.off + 2, none⟩ := by simp [Addr.add]
    rwa [e] at this
--## ReadPointS 7 21
set_option maxRecDepth 20000 in
set_option maxHeartbeats 1000000 in
theorem ReadPointS (s : ByteArray) (w : World) (hs : s.size ≤ 1048576) : Calls Tryd.prog 7 #[.string s] w (Gives (isRP (ptR (segsB s))) w) := by
  have hL : (segsB s).length ≤ 1048577 := by rw [segsB_len]; exact Nat.le_trans (segs_len _) (Nat.succ_le_succ hs)
  have HL : Aside ((segsB s).length ≤ 1048577 ∧ s.size ≤ 1048576) := ⟨hL, hs⟩
  clear hL
  cases hr : numsV (segsB s) with
  | none =>
    have hP := ptR_none hr
    have A : Aside (numsV (segsB s) = none ∧ ptR (segsB s) = none) := ⟨hr, hP⟩
    clear hr hP
    go_enter Tryd.func7, Tryd.ntmps7
    go_wp2_with (first
      | (go_at_call 22; refine (SplitS s _ HL.out.2).mono ?_; rintro e w' ⟨v, rfl, hR, hb⟩; have R : Aside (Rls 1 w' v (rS (segsB s))) := hR; obtain ⟨hc1, hf1⟩ := bcell hb; have hz1 : w.heap.size < w'.heap.size := (by have := hb.size; simp at this; omega); (try simp at hc1 hf1); have HB1 : Aside _ := hb; clear hR hb)
      | (go_at_call 21; refine (NumbersS _ (segsB s) _ R.out HL.out.1).mono ?_; rintro e w2 ⟨u, q, rfl, hb, hq⟩; unfold NumOk at hq; rw [A.out.1] at hq; subst hq; obtain ⟨hc2, hf2⟩ := bcell hb; have hz2 : w.heap.size < w2.heap.size := Nat.lt_of_lt_of_le hz1 hb.size; have HB2 : Aside _ := hb; clear hb))
    all_goals simp [bodyPost, results, Tryd.results7, go_sem, *]
    rw [A.out.2]
    exact ⟨_, rfl, rfl, below_set (below_set (below_set (below_step HB2.out (below_step HB1.out (below_alloc (Below.refl _ _)))) (Nat.le_refl _)) (Nat.le_refl _)) (Nat.le_refl _)⟩
  | some ns =>
    by_cases hl : ns.length = 3
    · obtain ⟨x, y, z, rfl⟩ := three hl
      have hp := ptR_three hr
      have A : Aside (numsV (segsB s) = some [x, y, z]) := hr
      clear hr hl
      cases hpl : plainP (cp x y z)
      all_goals
        go_enter Tryd.func7, Tryd.ntmps7
        go_wp2_with (first
          | (go_at_call 22; refine (SplitS s _ HL.out.2).mono ?_; rintro e w' ⟨v, rfl, hR, hb⟩; have R : Aside (Rls 1 w' v (rS (segsB s))) := hR; obtain ⟨hc1, hf1⟩ := bcell hb; have hz1 : w.heap.size < w'.heap.size := (by have := hb.size; simp at this; omega); (try simp at hc1 hf1); have HB1 : Aside _ := hb; clear hR hb)
          | (go_at_call 21; refine (NumbersS _ (segsB s) _ R.out HL.out.1).mono ?_; rintro e w2 ⟨u, q, rfl, hb, hq⟩; unfold NumOk at hq; rw [A.out] at hq; obtain ⟨rfl, hq⟩ := hq; obtain ⟨b, c, rfl, g0, g1, g2, g3⟩ := rls3 hq; obtain ⟨hc2, hf2⟩ := bcell hb; have hz2 : w.heap.size < w2.heap.size := Nat.lt_of_lt_of_le hz1 hb.size; have HB2 : Aside _ := hb; clear hb hq))
      all_goals go_region
      all_goals go_wp2_with (go_at_call 23; refine (l01Point_any x y z _).mono ?_; rintro e w3 ⟨_, rfl, eb, hb⟩; (simp only [isB, hpl] at eb; subst eb); obtain ⟨hc3, hf3⟩ := bcell hb; (try simp at hc3 hf3); have hz3 : w.heap.size < w3.heap.size := (by have := hb.size; simp at this; omega); have hz4 : w2.heap.size < w3.heap.size := (by have := hb.size; simp at this; omega); have HB3 : Aside _ := hb; clear hb)
      all_goals have hz5 : w.heap.size < w2.heap.size + 1 := Nat.lt_succ_of_lt hz2
      all_goals have hz6 : ¬ w.heap.size = w2.heap.size := Nat.ne_of_lt hz2
      all_goals simp [bodyPost, results, Tryd.results7, go_sem, *]
      all_goals exact ⟨_, rfl, rfl, below_set (below_set (below_set (below_step HB3.out (Below.drew (below_alloc (below_step HB2.out (below_step HB1.out (below_alloc (Below.refl _ _))))))) (Nat.le_refl _)) (Nat.le_refl _)) (Nat.le_refl _)⟩
    · have hP := ptR_len hr hl
      have A : Aside (numsV (segsB s) = some ns ∧ ptR (segsB s) = none ∧ ¬ ns.length = 3) := ⟨hr, hP, hl⟩
      have hne : ((ns.length : Int) == 3) = false := by simp; omega
      have hne' : ((ns.length : Int) != 3) = true := by simp; omega
      clear hr hP hl
      go_enter Tryd.func7, Tryd.ntmps7
      go_wp2_with (first
        | (go_at_call 22; refine (SplitS s _ HL.out.2).mono ?_; rintro e w' ⟨v, rfl, hR, hb⟩; have R : Aside (Rls 1 w' v (rS (segsB s))) := hR; obtain ⟨hc1, hf1⟩ := bcell hb; have hz1 : w.heap.size < w'.heap.size := (by have := hb.size; simp at this; omega); (try simp at hc1 hf1); have HB1 : Aside _ := hb; clear hR hb)
        | (go_at_call 21; refine (NumbersS _ (segsB s) _ R.out HL.out.1).mono ?_; rintro e w2 ⟨u, q, rfl, hb, hq⟩; unfold NumOk at hq; rw [A.out.1] at hq; obtain ⟨rfl, hq⟩ := hq; obtain ⟨a, c, rfl, _⟩ := hq; simp only [rF_len]; obtain ⟨hc2, hf2⟩ := bcell hb; have hz2 : w.heap.size < w2.heap.size := Nat.lt_of_lt_of_le hz1 hb.size; have HB2 : Aside _ := hb; clear hb))
      all_goals simp [bodyPost, results, Tryd.results7, go_sem, *]
      rw [A.out.2.1]
      exact ⟨_, rfl, rfl, below_set (below_set (below_set (below_step HB2.out (below_step HB1.out (below_alloc (Below.refl _ _)))) (Nat.le_refl _)) (Nat.le_refl _)) (Nat.le_refl _)⟩
end Go.Proofs.YtnjckcampgankaaDoor
