/- Contracts: maps read from their texts. -/
import Derived.Test.YtljpggeogiabgaaDoorTxtE
import Derived.RegionTactic
namespace Go.Proofs.YtljpggeogiabgaaDoor
open Go.ChangeShapes Go.WideShapes Go.ChangeAt Go.RowKit Go.Flo Go.Mem
set_option linter.unusedSimpArgs false
set_option linter.unusedVariables false
def zero9 : Value := .agg #[.float .f32 0, .float .f32 0, .float .f32 0, .float .f32 0, .float .f32 0, .float .f32 0, .float .f32 0, .float .f32 0, .float .f32 0]
def mapV (x0 x1 x2 x3 x4 x5 x6 x7 x8 : Nat) : Value := .agg #[.float .f32 x0, .float .f32 x1, .float .f32 x2, .float .f32 x3, .float .f32 x4, .float .f32 x5, .float .f32 x6, .float .f32 x7, .float .f32 x8]
theorem HLof9 {s : ByteArray} (hs : s.size ≤ 1048576) : Aside ((segsB s).length ≤ 1048577 ∧ s.size ≤ 1048576) := by
  have hL : (segsB s).length ≤ 1048577 := by rw [segsB_len]; exact Nat.le_trans (segs_len _) (Nat.succ_le_succ hs)
  exact ⟨hL, hs⟩
theorem rlsAt {w : World} {b : Addr} {n c : Nat} {rs : List (List Value)} (h : Rls 1 w (.slice (some b) n c) rs) {i : Nat} {x : Value} (hi : rs[i]? = some [x]) : w.cell? (b.add i) = some x := by
  obtain ⟨a, c', e, h2⟩ := h
  obtain ⟨b', e1, e2, e3⟩ := h2 i [x] hi
  cases e
  cases e1
  have := e3 0 x rfl
  rw [Nat.mul_one] at this
  have hz : (b.add i).add 0 = b.add i := by simp [Addr.add]
  rwa [hz] at this
theorem rls9 {w : World} {u : Value} {x0 x1 x2 x3 x4 x5 x6 x7 x8 : Nat} (h : Rls 1 w u (rF [x0, x1, x2, x3, x4, x5, x6, x7, x8])) : ∃ b c, u = .slice (some b) 9 c ∧ b.block < w.heap.size ∧ w.cell? b = some (.float .f32 x0) ∧ w.cell? ⟨b.block, b.off + 1, none⟩ = some (.float .f32 x1) ∧ w.cell? ⟨b.block, b.off + 2, none⟩ = some (.float .f32 x2) ∧ w.cell? ⟨b.block, b.off + 3, none⟩ = some (.float .f32 x3) ∧ w.cell? ⟨b.block, b.off + 4, none⟩ = some (.float .f32 x4) ∧ w.cell? ⟨b.block, b.off + 5, none⟩ = some (.float .f32 x5) ∧ w.cell? ⟨b.block, b.off + 6, none⟩ = some (.float .f32 x6) ∧ w.cell? ⟨b.block, b.off + 7, none⟩ = some (.float .f32 x7) ∧ w.cell? ⟨b.block, b.off + 8, none⟩ = some (.float .f32 x8) := by
  obtain ⟨b, c, rfl, h0, _⟩ := h.at (i := 0) (r := [.float .f32 x0]) rfl
  refine ⟨b, c, rfl, by rw [add_block'] at h0; exact h0, rlsAt h (i := 0) rfl, rlsAt h (i := 1) rfl, rlsAt h (i := 2) rfl, rlsAt h (i := 3) rfl, rlsAt h (i := 4) rfl, rlsAt h (i := 5) rfl, rlsAt h (i := 6) rfl, rlsAt h (i := 7) rfl, rlsAt h (i := 8) rfl⟩
--## ReadMapS 5 11
set_option maxRecDepth 20000 in
set_option maxHeartbeats 1000000 in
theorem ReadMapS0 (s : ByteArray) (w : World) (hs : s.size ≤ 1048576) (hn : numsV (segsB s) = none) : Calls Tryd.prog 5 #[.string s] w (Gives (fun v => v = .tuple #[zero9, .int .i64 5]) w) := by
  have HL := HLof9 hs
  have A : Aside (numsV (segsB s) = none) := hn
  clear hs hn
  go_enter Tryd.func5, Tryd.ntmps5
  go_wp2_with (first
    | (go_at_call 12; refine (SplitS s _ HL.out.2).mono ?_; rintro e w' ⟨v, rfl, hR, hb⟩; have R : Aside (Rls 1 w' v (rS (segsB s))) := hR; obtain ⟨hc1, hf1⟩ := bcell hb; have hz1 : w.heap.size < w'.heap.size := (by have := hb.size; simp at this; omega); (try simp at hc1 hf1); have HB1 : Aside _ := hb; clear hR hb)
    | (go_at_call 11; refine (NumbersS _ (segsB s) _ R.out HL.out.1).mono ?_; rintro e w2 ⟨u, q, rfl, hb, hq⟩; unfold NumOk at hq; rw [A.out] at hq; subst hq; obtain ⟨hc2, hf2⟩ := bcell hb; have hz2 : w.heap.size < w2.heap.size := Nat.lt_of_lt_of_le hz1 hb.size; have HB2 : Aside _ := hb; clear hb))
  all_goals simp [bodyPost, results, Tryd.results5, go_sem, *]
  all_goals refine ⟨_, rfl, rfl, ?_⟩
  all_goals repeat refine below_set ?_ (Nat.le_refl _)
  all_goals exact below_step HB2.out (below_step HB1.out (below_alloc (Below.refl _ _)))
set_option maxRecDepth 20000 in
set_option maxHeartbeats 1000000 in
theorem ReadMapS1 (s : ByteArray) (w : World) (hs : s.size ≤ 1048576) {ns : List Nat} (hn : numsV (segsB s) = some ns) (hl : ns.length ≠ 9) : Calls Tryd.prog 5 #[.string s] w (Gives (fun v => v = .tuple #[zero9, .int .i64 5]) w) := by
  have HL := HLof9 hs
  have A : Aside (numsV (segsB s) = some ns) := hn
  have hne : ((ns.length : Int) == 9) = false := by simp; omega
  have hne' : ((ns.length : Int) != 9) = true := by simp; omega
  clear hs hn hl
  go_enter Tryd.func5, Tryd.ntmps5
  go_wp2_with (first
    | (go_at_call 12; refine (SplitS s _ HL.out.2).mono ?_; rintro e w' ⟨v, rfl, hR, hb⟩; have R : Aside (Rls 1 w' v (rS (segsB s))) := hR; obtain ⟨hc1, hf1⟩ := bcell hb; have hz1 : w.heap.size < w'.heap.size := (by have := hb.size; simp at this; omega); (try simp at hc1 hf1); have HB1 : Aside _ := hb; clear hR hb)
    | (go_at_call 11; refine (NumbersS _ (segsB s) _ R.out HL.out.1).mono ?_; rintro e w2 ⟨u, q, rfl, hb, hq⟩; unfold NumOk at hq; rw [A.out] at hq; obtain ⟨rfl, hq⟩ := hq; obtain ⟨a, c, rfl, _⟩ := hq; simp only [rF_len]; obtain ⟨hc2, hf2⟩ := bcell hb; have hz2 : w.heap.size < w2.heap.size := Nat.lt_of_lt_of_le hz1 hb.size; have HB2 : Aside _ := hb; clear hb))
  all_goals simp [bodyPost, results, Tryd.results5, go_sem, *]
  all_goals refine ⟨_, rfl, rfl, ?_⟩
  all_goals repeat refine below_set ?_ (Nat.le_refl _)
  all_goals exact below_step HB2.out (below_step HB1.out (below_alloc (Below.refl _ _)))
theorem split9 {p : Nat → Value → Prop} {x0 x1 x2 x3 x4 x5 x6 x7 x8 : Value} (h0 : p 0 x0) (h1 : p 1 x1) (h2 : p 2 x2) (h3 : p 3 x3) (h4 : p 4 x4) (h5 : p 5 x5) (h6 : p 6 x6) (h7 : p 7 x7) (h8 : p 8 x8) : ∀ k x, [x0, x1, x2, x3, x4, x5, x6, x7, x8][k]? = some x → p k x := by
  intro k x h
  match k, h with
  | 0, h => cases h; exact h0
  | 1, h => cases h; exact h1
  | 2, h => cases h; exact h2
  | 3, h => cases h; exact h3
  | 4, h => cases h; exact h4
  | 5, h => cases h; exact h5
  | 6, h => cases h; exact h6
  | 7, h => cases h; exact h7
  | 8, h => cases h; exact h8
  | k + 9, h => simp at h
theorem newA (w : World) (cs : Array Value) (t : TypeId) : ∀ (k : Nat) (x : Value), cs.toList[k]? = some x → (w.alloc (.cells cs t)).cell? ⟨w.heap.size, k, none⟩ = some x := by
  intro k x h
  rw [World.cell?_alloc_at _ _ _ _ rfl]
  simpa using h
set_option maxRecDepth 20000 in
set_option maxHeartbeats 4000000 in
theorem ReadMapS2 (s : ByteArray) (w : World) (hs : s.size ≤ 1048576) {x0 x1 x2 x3 x4 x5 x6 x7 x8 : Nat} (hn : numsV (segsB s) = some [x0, x1, x2, x3, x4, x5, x6, x7, x8]) (b : Bool)
    (hok : ∀ (W : World) (g : Nat), g < W.heap.size → (∀ k x, [.float .f32 x0, .float .f32 x1, .float .f32 x2, .float .f32 x3, .float .f32 x4, .float .f32 x5, .float .f32 x6, .float .f32 x7, .float .f32 x8][k]? = some x → W.cell? ⟨g, k, none⟩ = some x) → Calls Tryd.prog 13 #[.pointer (some ⟨g, 0, none⟩)] W (Gives (isB b) W)) : Calls Tryd.prog 5 #[.string s] w (Gives (fun v => v = (if b then .tuple #[mapV x0 x1 x2 x3 x4 x5 x6 x7 x8, .int .i64 0] else .tuple #[zero9, .int .i64 5])) w) := by
  have HL := HLof9 hs
  have A : Aside (numsV (segsB s) = some [x0, x1, x2, x3, x4, x5, x6, x7, x8]) := hn
  have HO : Aside (∀ (W : World) (g : Nat), g < W.heap.size → (∀ k x, [.float .f32 x0, .float .f32 x1, .float .f32 x2, .float .f32 x3, .float .f32 x4, .float .f32 x5, .float .f32 x6, .float .f32 x7, .float .f32 x8][k]? = some x → W.cell? ⟨g, k, none⟩ = some x) → Calls Tryd.prog 13 #[.pointer (some ⟨g, 0, none⟩)] W (Gives (isB b) W)) := hok
  clear hs hn hok
  go_enter Tryd.func5, Tryd.ntmps5
  go_wp2_with (first
    | (go_at_call 12; refine (SplitS s _ HL.out.2).mono ?_; rintro e w' ⟨v, rfl, hR, hb⟩; have R : Aside (Rls 1 w' v (rS (segsB s))) := hR; obtain ⟨hc1, hf1⟩ := bcell hb; have hz1 : w.heap.size < w'.heap.size := (by have := hb.size; simp at this; omega); (try simp at hc1 hf1); have HB1 : Aside _ := hb; clear hR hb)
    | (go_at_call 11; refine (NumbersS _ (segsB s) _ R.out HL.out.1).mono ?_; rintro e w2 ⟨u, q, rfl, hb, hq⟩; unfold NumOk at hq; rw [A.out] at hq; obtain ⟨rfl, hq⟩ := hq; obtain ⟨p, cp, rfl, p0, y0, y1, y2, y3, y4, y5, y6, y7, y8⟩ := rls9 hq; obtain ⟨hc2, hf2⟩ := bcell hb; have hz2 : w.heap.size < w2.heap.size := Nat.lt_of_lt_of_le hz1 hb.size; have HB2 : Aside _ := hb; clear hb hq))
  have e0 : ¬ p.block = w2.heap.size := Nat.ne_of_lt p0
  have e1 : ¬ w2.heap.size = p.block := fun h => e0 h.symm
  have e2 : p.block < w2.heap.size + 1 := Nat.lt_succ_of_lt p0
  have hz5 : w.heap.size < w2.heap.size + 1 := Nat.lt_succ_of_lt hz2
  have hz6 : ¬ w.heap.size = w2.heap.size := Nat.ne_of_lt hz2
  have hz7 : ¬ w2.heap.size = w.heap.size := fun h => hz6 h.symm
  refine wp_loop_rounds 10 ?_
  repeat any_goals (rw [rounds_succ]; go_wp2_with fail)
  clear y0 y1 y2 y3 y4 y5 y6 y7 y8
  cases b
  all_goals go_wp2_with (go_at_call 13; refine (HO.out _ _ (by simp) (newA _ _ _)).mono ?_; rintro e w3 ⟨_, rfl, eb, hb⟩; (simp only [isB] at eb; subst eb); obtain ⟨hc3, hf3⟩ := bcell hb; (try simp at hc3 hf3); have hz3 : w.heap.size < w3.heap.size := (by have := hb.size; simp at this; omega); have hz4 : w2.heap.size < w3.heap.size := (by have := hb.size; simp at this; omega); have HB3 : Aside _ := hb; clear hb)
  all_goals simp [bodyPost, results, Tryd.results5, go_sem, *]
  all_goals refine ⟨_, rfl, rfl, ?_⟩
  all_goals repeat refine below_set ?_ (Nat.le_refl _)
  all_goals exact below_step HB3.out (below_alloc (below_step HB2.out (below_step HB1.out (below_alloc (Below.refl _ _)))))
--## ReadMapI 6 15
set_option maxRecDepth 20000 in
set_option maxHeartbeats 1000000 in
theorem ReadMapI0 (s : ByteArray) (w : World) {m : Int} (h5 : 1 < w.heap.size) (hm : w.cell? ⟨1, 0, none⟩ = some (.int .i64 m)) (hs : s.size ≤ 1048576) (h3 : (segsB s).length ≠ 9) : Calls Tryd.prog 6 #[.string s] w (Gives (fun v => v = .tuple #[zero9, .int .i64 5]) w) := by
  have HL : Aside (s.size ≤ 1048576) := hs
  have HM : Aside (∀ o1 o2, ((w.alloc o1).alloc o2).cell? ⟨1, 0, none⟩ = some (.int .i64 m)) := fun o1 o2 => ((below_alloc (below_alloc (Below.refl _ _))).cell (p := ⟨1, 0, none⟩) h5).trans hm
  have hk5 : w.heap.size < w.heap.size + 1 + 1 := by omega
  have hk6 : ¬ w.heap.size = w.heap.size + 1 := by omega
  have hk7 : w.heap.size + 1 < w.heap.size + 1 + 1 := by omega
  have hl := cutN_len (n := 10) (by decide) s
  have hne : (((cutN 10 s).length : Int) == 9) = false := by simp; omega
  have hne' : (((cutN 10 s).length : Int) != 9) = true := by simp; omega
  clear hl h3 hs hm
  go_enter Tryd.func6, Tryd.ntmps6
  go_wp2_with (go_at_call 14; refine (SplitNI 10 (by decide) s _ (m := m) (HM.out _ _) HL.out (by decide) (by decide)).mono ?_; rintro e w' ⟨g, N, rfl, _, _, _, hb⟩; obtain ⟨hc1, hf1⟩ := bcell hb; have hz1 : w.heap.size < w'.heap.size := (by have := hb.size; (try simp at this); omega); (try simp at hc1 hf1); have HB1 : Aside _ := hb; clear hb)
  all_goals simp [bodyPost, results, Tryd.results6, go_sem, *]
  refine ⟨_, rfl, rfl, ?_⟩
  repeat refine below_set ?_ (Nat.le_refl _)
  exact below_step HB1.out (below_alloc (below_alloc (Below.refl _ _)))
/-- all blocks but one lie as they lay -/
structure But (b : Nat) (W W' : World) : Prop where
  size : W.heap.size ≤ W'.heap.size
  block : ∀ k, k < W.heap.size → k ≠ b → W'.heap[k]? = W.heap[k]?
theorem But.refl (b : Nat) (W : World) : But b W W := ⟨Nat.le_refl _, fun _ _ _ => rfl⟩
theorem But.below {b : Nat} {W W1 W2 : World} (h : But b W W1) (hb : Below W1.heap.size W1 W2) : But b W W2 :=
  ⟨Nat.le_trans h.size hb.size, fun k hk hn => (hb.block k (Nat.lt_of_lt_of_le hk h.size)).trans (h.block k hk hn)⟩
theorem But.grown {b : Nat} {W W1 W2 : World} (h : But b W W1) (hg : W1.grownBy W2 (some b)) : But b W W2 :=
  ⟨Nat.le_trans h.size hg.size, fun k hk hn => (hg.block k (Nat.lt_of_lt_of_le hk h.size) (by simpa using hn)).trans (h.block k hk hn)⟩
theorem But.cell {b : Nat} {W W1 : World} (h : But b W W1) {k o : Nat} (hk : k < W.heap.size) (hn : k ≠ b) : W1.cell? ⟨k, o, none⟩ = W.cell? ⟨k, o, none⟩ := by
  unfold World.cell?
  simp only [h.block k hk hn]
theorem But.frozen {b : Nat} {W W1 : World} (h : But b W W1) {k o : Nat} (hk : k < W.heap.size) (hn : k ≠ b) : W1.frozen? ⟨k, o, none⟩ = W.frozen? ⟨k, o, none⟩ := by
  unfold World.frozen?
  simp only [h.block k hk hn]
def row9 (out : List Nat) : List Value := out.map (Value.float .f32) ++ List.replicate (9 - out.length) (Value.float .f32 0)
theorem row9_at {out : List Nat} {i : Nat} (hi : out.length = i) (h : i < 9) : (row9 out)[i]? = some (.float .f32 0) := by
  unfold row9
  rw [List.getElem?_append_right (by simp [hi])]
  simp [hi, List.getElem?_replicate]; omega
theorem row9_set {out : List Nat} {i : Nat} (hi : out.length = i) (h : i < 9) (x : Nat) : (row9 out).set i (.float .f32 x) = row9 (out ++ [x]) := by
  unfold row9
  subst hi
  rw [List.set_append_right _ _ (by simp)]
  simp only [List.length_map, Nat.sub_self, List.map_append, List.map_cons, List.map_nil, List.length_append, List.length_cons, List.length_nil]
  rw [show 9 - out.length = (9 - (out.length + (0 + 1))) + 1 by omega, List.replicate_succ, List.set_cons_zero]
  simp
theorem rowNew9 (w : World) (cs : Array Value) (t : TypeId) (hs : cs.size = 9) : (w.alloc (.cells cs t)).ownsRow w.heap.size t 1 (.slice (some ⟨w.heap.size, 0, none⟩) 9 9) 9 cs.toList :=
  World.ownsRow_lit w cs 9 (Nat.le_refl _) (by decide) (by rw [hs])
set_option maxRecDepth 20000 in
set_option maxHeartbeats 4000000 in
theorem ReadMapI1 (s : ByteArray) (w : World) {m : Int} (h5 : 1 < w.heap.size) (hm : w.cell? ⟨1, 0, none⟩ = some (.int .i64 m)) (hs : s.size ≤ 1048576) {ws : List ByteArray} (hw : segsB s = ws) (hl : ws.length = 9) (V : Value)
    (hn : numsV ws = none → V = .tuple #[zero9, .int .i64 5])
    (hy : ∀ x0 x1 x2 x3 x4 x5 x6 x7 x8, numsV ws = some [x0, x1, x2, x3, x4, x5, x6, x7, x8] → ∃ b : Bool, V = (if b then .tuple #[mapV x0 x1 x2 x3 x4 x5 x6 x7 x8, .int .i64 0] else .tuple #[zero9, .int .i64 5]) ∧ ∀ W, Calls Tryd.prog 16 #[mapV x0 x1 x2 x3 x4 x5 x6 x7 x8] W (Gives (isB b) W)) : Calls Tryd.prog 6 #[.string s] w (Gives (fun v => v = V) w) := by
  have HL : Aside (s.size ≤ 1048576) := hs
  have HM : Aside (∀ o1 o2, ((w.alloc o1).alloc o2).cell? ⟨1, 0, none⟩ = some (.int .i64 m)) := fun o1 o2 => ((below_alloc (below_alloc (Below.refl _ _))).cell (p := ⟨1, 0, none⟩) h5).trans hm
  have hk5 : w.heap.size < w.heap.size + 1 + 1 := by omega
  have hk6 : ¬ w.heap.size = w.heap.size + 1 := by omega
  have hk7 : w.heap.size + 1 < w.heap.size + 1 + 1 := by omega
  have hcut : cutN 10 s = ws := by rw [cutN_eq (by rw [hw]; omega) (by decide), hw]
  have HW : Aside (cutN 10 s = ws ∧ ws.length = 9) := ⟨hcut, hl⟩
  have HN : Aside (numsV ws = none → V = .tuple #[zero9, .int .i64 5]) := hn
  have HY : Aside (∀ x0 x1 x2 x3 x4 x5 x6 x7 x8, numsV ws = some [x0, x1, x2, x3, x4, x5, x6, x7, x8] → ∃ b : Bool, V = (if b then .tuple #[mapV x0 x1 x2 x3 x4 x5 x6 x7 x8, .int .i64 0] else .tuple #[zero9, .int .i64 5]) ∧ ∀ W, Calls Tryd.prog 16 #[mapV x0 x1 x2 x3 x4 x5 x6 x7 x8] W (Gives (isB b) W)) := hy
  clear hw hl hs hm hcut hn hy
  go_enter Tryd.func6, Tryd.ntmps6
  go_wp2_with (go_at_call 14; refine (SplitNI 10 (by decide) s _ (m := m) (HM.out _ _) HL.out (by decide) (by decide)).mono ?_; rintro e w' ⟨q, N, rfl, hq, hq2, hR, hb⟩; simp at hq; have n1 : ¬ w.heap.size = q := (by omega); have n2 : ¬ q = w.heap.size := (by omega); have n3 : ¬ w.heap.size + 1 = q := (by omega); have n4 : ¬ q = w.heap.size + 1 := (by omega); rw [HW.out.1] at hR ⊢; rw [HW.out.2] at hR ⊢; have R : Aside (Rls 1 w' (.slice (some ⟨q, 0, none⟩) 9 N) (rS ws)) := hR; obtain ⟨hc1, hf1⟩ := bcell hb; have hz1 : w.heap.size < w'.heap.size := (by have := hb.size; (try simp at this); omega); have hy1 : w.heap.size + 1 < w'.heap.size := (by have := hb.size; (try simp at this); omega); (try simp at hc1 hf1); have HB1 : Aside _ := hb; clear hb hR)
  have OW : Aside (w'.ownsRow (w.heap.size + 1) 24 1 (.slice (some ⟨w.heap.size + 1, 0, none⟩) 9 9) 9 (row9 [])) := World.ownsRow.grown_to (by have := rowNew9 (w.alloc (.cells #[.float .f32 0, .float .f32 0, .float .f32 0, .float .f32 0, .float .f32 0, .float .f32 0, .float .f32 0, .float .f32 0, .float .f32 0] 24)) #[.float .f32 0, .float .f32 0, .float .f32 0, .float .f32 0, .float .f32 0, .float .f32 0, .float .f32 0, .float .f32 0, .float .f32 0] 24 rfl; simpa [row9] using this) HB1.out
  go_loopg [15] 9 (fun k s15 wr => ∃ (i : Nat) (out : List Nat), s15 = .int .i64 i ∧ i + k = 9 ∧ out.length = i ∧ numsV (ws.take i) = some out ∧ wr.ownsRow (w.heap.size + 1) 24 1 (.slice (some ⟨w.heap.size + 1, 0, none⟩) 9 9) 9 (row9 out) ∧ But (w.heap.size + 1) w' wr ∧ Below w.heap.size w wr)
  · exact ⟨0, [], rfl, rfl, rfl, rfl, OW, But.refl _ _, below_step HB1.out (below_alloc (below_alloc (Below.refl _ _)))⟩
  · obtain ⟨i, out, rfl, hik, ho, ht, OR, hbut, HB⟩ := hrel
    have hcr : ∀ b o, b < w'.heap.size → ¬ b = w.heap.size + 1 → wr.cell? ⟨b, o, none⟩ = w'.cell? ⟨b, o, none⟩ := fun b o h1 h2 => hbut.cell h1 h2
    have hfr : ∀ b o, b < w'.heap.size → ¬ b = w.heap.size + 1 → wr.frozen? ⟨b, o, none⟩ = w'.frozen? ⟨b, o, none⟩ := fun b o h1 h2 => hbut.frozen h1 h2
    have hzr : w.heap.size < wr.heap.size := Nat.lt_of_lt_of_le hz1 hbut.size
    have hyr : w.heap.size + 1 < wr.heap.size := Nat.lt_of_lt_of_le hy1 hbut.size
    have B : Aside (i + gk = 9 ∧ out.length = i ∧ numsV (ws.take i) = some out ∧ wr.ownsRow (w.heap.size + 1) 24 1 (.slice (some ⟨w.heap.size + 1, 0, none⟩) 9 9) 9 (row9 out) ∧ But (w.heap.size + 1) w' wr ∧ Below w.heap.size w wr) := ⟨hik, ho, ht, OR, hbut, HB⟩
    clear ho ht OR hbut HB
    by_cases hi : i < 9
    · obtain ⟨b, hb⟩ : ∃ b, ws[i]? = some b := ⟨ws[i]'(by rw [HW.out.2]; exact hi), List.getElem?_eq_getElem _⟩
      have hx0 : w'.cell? ⟨q, i, none⟩ = some (.string b) := by
        have h := rlsAt R.out (i := i) (x := .string b) (by simp [rS, hb])
        have e : (⟨q, 0, none⟩ : Addr).add i = ⟨q, i, none⟩ := by
          unfold Addr.add
          split
          · rename_i h0; rw [h0]
          · simp
        rwa [e] at h
      have hi' : (i : Int) < 9 := by omega
      have hi0 : (0 : Int) ≤ (i : Int) := Int.natCast_nonneg _
      have hi2 : (i : Int) < ((9 : Nat) : Int) := by omega
      have C : Aside (ws[i]? = some b) := hb
      clear hb
      cases hres : resV b with
      | none =>
        have E : Aside (resV b = none) := hres
        clear hres
        go_wp2_with (first
          | (refine wpList_idxR rfl rfl (by kernel_rfl) (by kernel_rfl) rfl (i := (i : Int)) rfl (Int.natCast_nonneg _) hi2 ?_; simp only [Int.toNat_natCast, Nat.mul_one])
          | (go_at_call 15; refine (ReadNumberI b _).mono ?_; rintro e w4 ⟨v4, rfl, hv, hb⟩; rw [E.out] at hv; (simp only [isR] at hv; subst hv); obtain ⟨hc4, hf4⟩ := bcell hb; have HB4 : Aside _ := hb; clear hb))
        all_goals simp [bodyPost, results, Tryd.results6, go_sem, *]
        all_goals refine ⟨_, rfl, (HN.out (numsV_bad C.out E.out)).symm, ?_⟩
        all_goals repeat refine below_set ?_ (Nat.le_refl _)
        all_goals exact below_step HB4.out B.out.2.2.2.2.2
      | some x =>
        have E : Aside (resV b = some x) := hres
        clear hres
        have hw0 : wr.cell? ⟨w.heap.size + 1, i, none⟩ = some (.float .f32 0) := by
          rw [B.out.2.2.2.1.cellAt i (by omega)]; exact row9_at B.out.2.1 hi
        have hw1 : wr.frozen? ⟨w.heap.size + 1, i, none⟩ = false := B.out.2.2.2.1.frozenAt i
        go_wp2_with (first
          | (refine wpList_idxR rfl rfl (by kernel_rfl) (by kernel_rfl) rfl (i := (i : Int)) rfl (Int.natCast_nonneg _) hi2 ?_; simp only [Int.toNat_natCast, Nat.mul_one])
          | (go_at_call 15; refine (ReadNumberI b _).mono ?_; rintro e w4 ⟨v4, rfl, hv, hb⟩; rw [E.out] at hv; (simp only [isR] at hv; subst hv); obtain ⟨hc4, hf4⟩ := bcell hb; have HB4 : Aside _ := hb; clear hb))
        obtain ⟨hik, ho, ht, OR, hbut, HB⟩ := B.out
        obtain ⟨st1, st2⟩ := (OR.grown_to HB4.out).stored i (.float .f32 x)
        have hst := take_stepB C.out E.out ht
        rw [row9_set ho hi] at st1
        go_roundg (gk - 1)
        · refine ⟨i + 1, out ++ [x], ?_, by omega, by simp; omega, hst, st1, (hbut.below HB4.out).grown st2, below_set (below_step HB4.out HB) (Nat.le_succ _)⟩
          first
            | (congr 1; done)
            | (congr 1; unfold wrap64; omega)
        · omega
    · have hie : i = 9 := by omega
      subst hie
      obtain ⟨hik, ho, ht, OR, hbut, HB⟩ := B.out
      have ht' : numsV ws = some out := by rw [List.take_of_length_le (by rw [HW.out.2]; exact Nat.le_refl _)] at ht; exact ht
      obtain ⟨x0, x1, x2, x3, x4, x5, x6, x7, x8, rfl⟩ : ∃ x0 x1 x2 x3 x4 x5 x6 x7 x8, out = [x0, x1, x2, x3, x4, x5, x6, x7, x8] := by
        match out, ho with
        | [x0, x1, x2, x3, x4, x5, x6, x7, x8], _ => exact ⟨x0, x1, x2, x3, x4, x5, x6, x7, x8, rfl⟩
      obtain ⟨bv, hV, hok⟩ := HY.out _ _ _ _ _ _ _ _ _ ht'
      have HK : Aside (V = (if bv then .tuple #[mapV x0 x1 x2 x3 x4 x5 x6 x7 x8, .int .i64 0] else .tuple #[zero9, .int .i64 5]) ∧ ∀ W, Calls Tryd.prog 16 #[mapV x0 x1 x2 x3 x4 x5 x6 x7 x8] W (Gives (isB bv) W)) := ⟨hV, hok⟩
      have y0 : wr.cell? ⟨w.heap.size + 1, 0, none⟩ = some (.float .f32 x0) := (OR.cellAt 0 (by omega)).trans rfl
      have y1 : wr.cell? ⟨w.heap.size + 1, 1, none⟩ = some (.float .f32 x1) := (OR.cellAt 1 (by omega)).trans rfl
      have y2 : wr.cell? ⟨w.heap.size + 1, 2, none⟩ = some (.float .f32 x2) := (OR.cellAt 2 (by omega)).trans rfl
      have y3 : wr.cell? ⟨w.heap.size + 1, 3, none⟩ = some (.float .f32 x3) := (OR.cellAt 3 (by omega)).trans rfl
      have y4 : wr.cell? ⟨w.heap.size + 1, 4, none⟩ = some (.float .f32 x4) := (OR.cellAt 4 (by omega)).trans rfl
      have y5 : wr.cell? ⟨w.heap.size + 1, 5, none⟩ = some (.float .f32 x5) := (OR.cellAt 5 (by omega)).trans rfl
      have y6 : wr.cell? ⟨w.heap.size + 1, 6, none⟩ = some (.float .f32 x6) := (OR.cellAt 6 (by omega)).trans rfl
      have y7 : wr.cell? ⟨w.heap.size + 1, 7, none⟩ = some (.float .f32 x7) := (OR.cellAt 7 (by omega)).trans rfl
      have y8 : wr.cell? ⟨w.heap.size + 1, 8, none⟩ = some (.float .f32 x8) := (OR.cellAt 8 (by omega)).trans rfl
      clear ht ht' hik ho OR hbut hV hok HN HY
      cases bv
      all_goals go_wp2_with (go_at_call 16; refine (HK.out.2 _).mono ?_; rintro e w3 ⟨_, rfl, eb, hb⟩; (simp only [isB] at eb; subst eb); obtain ⟨hc3, hf3⟩ := bcell hb; (try simp at hc3 hf3); have hz3 : w.heap.size < w3.heap.size := (by have := hb.size; (try simp at this); omega); have hz4 : w.heap.size + 1 < w3.heap.size := (by have := hb.size; (try simp at this); omega); have HB3 : Aside _ := hb; clear hb)
      all_goals simp [bodyPost, results, Tryd.results6, go_sem, *]
      all_goals refine ⟨_, rfl, HK.out.1.symm, ?_⟩
      all_goals repeat refine below_set ?_ (Nat.le_refl _)
      all_goals exact below_step HB3.out HB
end Go.Proofs.YtljpggeogiabgaaDoor
