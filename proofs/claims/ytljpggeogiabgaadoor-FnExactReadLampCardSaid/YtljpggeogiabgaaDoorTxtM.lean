/- Contracts: lamps read from their texts (the model's side). -/
import Derived.Test.YtljpggeogiabgaaDoorTxtD
import Derived.RegionTactic
import Derived.BigRegion
import Derived.Deep.RegionHeld3
namespace Go.Proofs.YtljpggeogiabgaaDoor
open Go.ChangeShapes Go.WideShapes Go.ChangeAt Go.RowKit Go.Flo Go.Mem
set_option linter.unusedSimpArgs false
set_option linter.unusedVariables false
theorem rls_at {w : World} {b : Addr} {n c : Nat} {rs : List (List Value)} (h : Rls 1 w (.slice (some b) n c) rs) {i : Nat} {x : Value} (hi : rs[i]? = some [x]) : w.cell? (b.add i) = some x := by
  obtain ⟨a, c', e, h2⟩ := h
  obtain ⟨b', e1, e2, e3⟩ := h2 i [x] hi
  cases e
  cases e1
  have := e3 0 x rfl
  rw [Nat.mul_one] at this
  have hz : (b.add i).add 0 = b.add i := by simp [Addr.add]
  rwa [hz] at this
theorem rls_ptr {w : World} {u : Value} {rs : List (List Value)} (h : Rls 1 w u rs) {x : List Value} (h0 : rs[0]? = some x) : ∃ b c, u = .slice (some b) rs.length c := by
  obtain ⟨b, c, e, _⟩ := h.at h0
  exact ⟨b, c, e⟩
/-- a slice without its first row -/
theorem rls_tail {w : World} {b : Addr} {n c : Nat} {r : List Value} {rs : List (List Value)} (h : Rls 1 w (.slice (some b) (n + 1) c) (r :: rs)) (c' : Nat) (hn : 0 < n) : Rls 1 w (.slice (some (b.add 1)) n c') rs := by
  obtain ⟨a, c1, e, h2⟩ := h
  simp at e
  obtain ⟨rfl, hl, rfl⟩ := e
  subst hl
  refine ⟨some (b.add 1), c', rfl, fun j q hq => ?_⟩
  obtain ⟨b', e1, e2, e3⟩ := h2 (j + 1) q (by simpa using hq)
  cases e1
  refine ⟨b.add 1, rfl, by rw [add_block']; exact e2, fun k x hx => ?_⟩
  have := e3 k x hx
  have hz : (b.add ((j + 1) * 1)).add k = ((b.add 1).add (j * 1)).add k := by
    simp [Addr.add]
    by_cases hj : j = 0 <;> by_cases hk : k = 0 <;> simp [hj, hk] <;> omega
  rwa [← hz]
theorem HLof {s : ByteArray} (hs : s.size ≤ 1048576) : Aside ((segsB s).length ≤ 1048577 ∧ s.size ≤ 1048576) := by
  have hL : (segsB s).length ≤ 1048577 := by rw [segsB_len]; exact Nat.le_trans (segs_len _) (Nat.succ_le_succ hs)
  exact ⟨hL, hs⟩
theorem newC (w : World) (cs : Array Value) (t : TypeId) : ∀ (k : Nat) (x : Value), cs.toList[k]? = some x → ((w.alloc (.cells cs t)).drew).cell? ⟨w.heap.size, k, none⟩ = some x := by
  intro k x h
  show (w.alloc (.cells cs t)).cell? ⟨w.heap.size, k, none⟩ = some x
  rw [World.cell?_alloc_at _ _ _ _ rfl]
  simpa using h
structure Cup0 (p : Prop) : Prop where
  out : p
def zeroL : Value := .agg #[.float .f32 0, .float .f32 0, .float .f32 0, .bool false, .float .f32 0]
def lamV (x0 x1 x2 x4 : Nat) (b : Bool) : Value := .agg #[.float .f32 x0, .float .f32 x1, .float .f32 x2, .bool b, .float .f32 x4]
theorem rls_tail' {w : World} {b : Addr} {n n' c c' : Nat} {r : List Value} {rs : List (List Value)} (h : Rls 1 w (.slice (some b) n c) (r :: rs)) (hn : n' = rs.length) (h0 : 0 < n') : Rls 1 w (.slice (some (b.add 1)) n' c') rs := by
  subst hn
  obtain ⟨a, c1, e, h2⟩ := h
  have e' : n = rs.length + 1 := by cases e; simp
  subst e'
  exact rls_tail ⟨a, c1, e, h2⟩ c' h0
theorem rls_lt {w : World} {b : Addr} {n c i : Nat} {r : List Value} {rs : List (List Value)} (h : Rls 1 w (.slice (some b) n c) rs) (hi : rs[i]? = some r) : b.block < w.heap.size := by
  obtain ⟨b', c', e, h1, _⟩ := h.at hi
  cases e
  rw [add_block'] at h1; exact h1
--## ReadLampS 8 11
theorem one_lt_of {n : Nat} (h : 2 ≤ n) : (1 : Int) ≤ (n : Int) := by omega
set_option maxRecDepth 20000 in
set_option maxHeartbeats 1000000 in
theorem ReadLampS1 (s : ByteArray) (w : World) (hs : s.size ≤ 1048576) {w0 : ByteArray} {ws : List ByteArray} (hw : segsB s = w0 :: ws) {n : Nat} (hl : ws.length + 1 = n) (h2 : 2 ≤ n) (hn : numsV ws = none) : Calls Tryd.prog 8 #[.string s] w (Gives (fun v => v = .tuple #[zeroL, .int .i64 5]) w) := by
  have HL := HLof hs
  have HW : Aside (segsB s = w0 :: ws ∧ (rS (w0 :: ws)).length = n ∧ 2 ≤ n) := ⟨hw, by rw [rS_len]; simp [hl], h2⟩
  have HN : Aside (numsV ws = none ∧ ws.length + 1 = n) := ⟨hn, hl⟩
  have hb1 := one_lt_of h2
  clear hw hl hs hn h2
  go_enter Tryd.func8, Tryd.ntmps8
  go_wp2_with (first
    | (go_at_call 12; refine (SplitS' s _ HL.out.2).mono ?_; rintro e w' ⟨v, rfl, hR, hcap, hb⟩; rw [HW.out.1] at hR; obtain ⟨q, c, rfl⟩ := rls_ptr hR (x := [.string w0]) rfl; have R : Aside (Rls 1 w' (.slice (some q) (rS (w0 :: ws)).length c) (rS (w0 :: ws))) := hR; have g0 : w'.cell? q = some (.string w0) := rls_at hR (i := 0) rfl; have gq : q.block < w'.heap.size := rls_lt hR (i := 0) rfl; rw [HW.out.2.1] at R hcap ⊢; have hc12 : ¬ c = 1 := (by have := hcap _ _ _ rfl; have := HW.out.2.2; omega); have hc11 : (1 : Int) ≤ (c : Int) := (by have := hcap _ _ _ rfl; have := HW.out.2.2; omega); have hc13 : ((n : Nat) : Int) ≤ (c : Int) := (by have := hcap _ _ _ rfl; omega); obtain ⟨hc1, hf1⟩ := bcell hb; have hz1 : w.heap.size < w'.heap.size := (by have := hb.size; simp at this; omega); (try simp at hc1 hf1); have HB1 : Aside _ := hb; clear hb hR hcap)
    | (go_at_call 11; refine (NumbersS _ ws _ (rls_tail' R.out (by rw [rS_len]; have := HN.out.2; omega) (by have := HW.out.2.2; omega)) (by have h1 := HL.out.1; rw [HW.out.1] at h1; simp at h1; omega)).mono ?_; rintro e w2 ⟨u, q2, rfl, hb, hq⟩; unfold NumOk at hq; rw [HN.out.1] at hq; subst hq; obtain ⟨hc2, hf2⟩ := bcell hb; have hz2 : w.heap.size < w2.heap.size := Nat.lt_of_lt_of_le hz1 hb.size; have HB2 : Aside _ := hb; clear hb))
  all_goals simp [bodyPost, results, Tryd.results8, go_sem, *]
  refine ⟨_, rfl, rfl, ?_⟩
  repeat refine below_set ?_ (Nat.le_refl _)
  exact below_step HB2.out (below_step HB1.out (below_alloc (Below.refl _ _)))
set_option maxRecDepth 20000 in
set_option maxHeartbeats 1000000 in
theorem ReadLampS2 (s : ByteArray) (w : World) (hs : s.size ≤ 1048576) {w0 : ByteArray} {ws : List ByteArray} (hw : segsB s = w0 :: ws) {n : Nat} (hl : ws.length + 1 = n) (h2 : 2 ≤ n) {ns : List Nat} (hn : numsV ws = some ns) (h4 : ns.length ≠ 4) : Calls Tryd.prog 8 #[.string s] w (Gives (fun v => v = .tuple #[zeroL, .int .i64 5]) w) := by
  have HL := HLof hs
  have HW : Aside (segsB s = w0 :: ws ∧ (rS (w0 :: ws)).length = n ∧ 2 ≤ n) := ⟨hw, by rw [rS_len]; simp [hl], h2⟩
  have HN : Aside (numsV ws = some ns ∧ ws.length + 1 = n) := ⟨hn, hl⟩
  have hb1 := one_lt_of h2
  have hne : ((ns.length : Int) == 4) = false := by simp; omega
  have hne' : ((ns.length : Int) != 4) = true := by simp; omega
  clear hw hl hs hn h2 h4
  go_enter Tryd.func8, Tryd.ntmps8
  go_wp2_with (first
    | (go_at_call 12; refine (SplitS' s _ HL.out.2).mono ?_; rintro e w' ⟨v, rfl, hR, hcap, hb⟩; rw [HW.out.1] at hR; obtain ⟨q, c, rfl⟩ := rls_ptr hR (x := [.string w0]) rfl; have R : Aside (Rls 1 w' (.slice (some q) (rS (w0 :: ws)).length c) (rS (w0 :: ws))) := hR; have g0 : w'.cell? q = some (.string w0) := rls_at hR (i := 0) rfl; have gq : q.block < w'.heap.size := rls_lt hR (i := 0) rfl; rw [HW.out.2.1] at R hcap ⊢; have hc12 : ¬ c = 1 := (by have := hcap _ _ _ rfl; have := HW.out.2.2; omega); have hc11 : (1 : Int) ≤ (c : Int) := (by have := hcap _ _ _ rfl; have := HW.out.2.2; omega); have hc13 : ((n : Nat) : Int) ≤ (c : Int) := (by have := hcap _ _ _ rfl; omega); obtain ⟨hc1, hf1⟩ := bcell hb; have hz1 : w.heap.size < w'.heap.size := (by have := hb.size; simp at this; omega); (try simp at hc1 hf1); have HB1 : Aside _ := hb; clear hb hR hcap)
    | (go_at_call 11; refine (NumbersS _ ws _ (rls_tail' R.out (by rw [rS_len]; have := HN.out.2; omega) (by have := HW.out.2.2; omega)) (by have h1 := HL.out.1; rw [HW.out.1] at h1; simp at h1; omega)).mono ?_; rintro e w2 ⟨u, q2, rfl, hb, hq⟩; unfold NumOk at hq; rw [HN.out.1] at hq; obtain ⟨rfl, hq⟩ := hq; obtain ⟨a, c9, rfl, _⟩ := hq; simp only [rF_len]; obtain ⟨hc2, hf2⟩ := bcell hb; have hz2 : w.heap.size < w2.heap.size := Nat.lt_of_lt_of_le hz1 hb.size; have HB2 : Aside _ := hb; clear hb))
  all_goals simp [bodyPost, results, Tryd.results8, go_sem, *]
  refine ⟨_, rfl, rfl, ?_⟩
  repeat refine below_set ?_ (Nat.le_refl _)
  exact below_step HB2.out (below_step HB1.out (below_alloc (Below.refl _ _)))
theorem rls_nil {w : World} {a : Option Addr} {c : Nat} : Rls 1 w (.slice a 0 c) (rS []) := ⟨a, c, rfl, fun j r h => by simp [rS] at h⟩
set_option maxRecDepth 20000 in
set_option maxHeartbeats 1000000 in
theorem ReadLampS0 (s : ByteArray) (w : World) (hs : s.size ≤ 1048576) {w0 : ByteArray} (hw : segsB s = [w0]) : Calls Tryd.prog 8 #[.string s] w (Gives (fun v => v = .tuple #[zeroL, .int .i64 5]) w) := by
  have HL := HLof hs
  have HW : Aside (segsB s = [w0] ∧ (rS [w0]).length = 1) := ⟨hw, rfl⟩
  clear hw hs
  go_enter Tryd.func8, Tryd.ntmps8
  go_wp2_with (first
    | (go_at_call 12; refine (SplitS' s _ HL.out.2).mono ?_; rintro e w' ⟨v, rfl, hR, hcap, hb⟩; rw [HW.out.1] at hR; obtain ⟨q, c, rfl⟩ := rls_ptr hR (x := [.string w0]) rfl; rw [HW.out.2] at hcap ⊢; have hc11 : (1 : Int) ≤ (c : Int) := (by have := hcap _ _ _ rfl; omega); obtain ⟨hc1, hf1⟩ := bcell hb; have hz1 : w.heap.size < w'.heap.size := (by have := hb.size; simp at this; omega); (try simp at hc1 hf1); have HB1 : Aside _ := hb; clear hb hR hcap)
    | (go_at_call 11; refine (NumbersS _ [] _ rls_nil (by decide)).mono ?_; rintro e w2 ⟨u, q2, rfl, hb, hq⟩; obtain ⟨rfl, hq⟩ : q2 = true ∧ Rls 1 w2 u (rF []) := hq; obtain ⟨a, c9, rfl, _⟩ := hq; simp only [rF_len]; obtain ⟨hc2, hf2⟩ := bcell hb; have hz2 : w.heap.size < w2.heap.size := Nat.lt_of_lt_of_le hz1 hb.size; have HB2 : Aside _ := hb; clear hb))
  all_goals simp [bodyPost, results, Tryd.results8, go_sem, *]
  all_goals refine ⟨_, rfl, rfl, ?_⟩
  all_goals repeat refine below_set ?_ (Nat.le_refl _)
  all_goals exact below_step HB2.out (below_step HB1.out (below_alloc (Below.refl _ _)))
theorem rls4 {w : World} {u : Value} {x0 x1 x2 x3 : Nat} (h : Rls 1 w u (rF [x0, x1, x2, x3])) : ∃ b c, u = .slice (some b) 4 c ∧ b.block < w.heap.size ∧ w.cell? b = some (.float .f32 x0) ∧ w.cell? ⟨b.block, b.off + 1, none⟩ = some (.float .f32 x1) ∧ w.cell? ⟨b.block, b.off + 2, none⟩ = some (.float .f32 x2) ∧ w.cell? ⟨b.block, b.off + 3, none⟩ = some (.float .f32 x3) := by
  obtain ⟨b, c, rfl, h0, _⟩ := h.at (i := 0) (r := [.float .f32 x0]) rfl
  refine ⟨b, c, rfl, by rw [add_block'] at h0; exact h0, rls_at h (i := 0) rfl, rls_at h (i := 1) rfl, rls_at h (i := 2) rfl, rls_at h (i := 3) rfl⟩
set_option maxRecDepth 20000 in
set_option maxHeartbeats 1000000 in
theorem ReadLampS3 (s : ByteArray) (w : World) (hs : s.size ≤ 1048576) {w0 : ByteArray} {ws : List ByteArray} (hw : segsB s = w0 :: ws) (hl : ws.length = 4) {x0 x1 x2 x4 : Nat} (hn : numsV ws = some [x0, x1, x2, x4]) (hL : (w0.toList == [108, 97, 109, 112]) = false) (hS : (w0.toList == [115, 117, 110]) = false) : Calls Tryd.prog 8 #[.string s] w (Gives (fun v => v = .tuple #[zeroL, .int .i64 5]) w) := by
  have HL := HLof hs
  have HW : Aside (segsB s = w0 :: ws ∧ (rS (w0 :: ws)).length = 5 ∧ ws.length = 4) := ⟨hw, by rw [rS_len]; simp [hl], hl⟩
  have HN : Aside (numsV ws = some [x0, x1, x2, x4]) := hn
  clear hw hl hs hn
  go_enter Tryd.func8, Tryd.ntmps8
  go_wp2_with (first
    | (go_at_call 12; refine (SplitS' s _ HL.out.2).mono ?_; rintro e w' ⟨v, rfl, hR, hcap, hb⟩; rw [HW.out.1] at hR; obtain ⟨q, c, rfl⟩ := rls_ptr hR (x := [.string w0]) rfl; have R : Aside (Rls 1 w' (.slice (some q) (rS (w0 :: ws)).length c) (rS (w0 :: ws))) := hR; have g0 : w'.cell? q = some (.string w0) := rls_at hR (i := 0) rfl; have gq : q.block < w'.heap.size := rls_lt hR (i := 0) rfl; rw [HW.out.2.1] at R hcap ⊢; have hc12 : ¬ c = 1 := (by have := hcap _ _ _ rfl; have := HW.out.2.2; omega); have hc11 : (1 : Int) ≤ (c : Int) := (by have := hcap _ _ _ rfl; have := HW.out.2.2; omega); have hc13 : ((5 : Nat) : Int) ≤ (c : Int) := (by have := hcap _ _ _ rfl; omega); obtain ⟨hc1, hf1⟩ := bcell hb; have hz1 : w.heap.size < w'.heap.size := (by have := hb.size; simp at this; omega); (try simp at hc1 hf1); have HB1 : Aside _ := hb; clear hb hR hcap)
    | (go_at_call 11; refine (NumbersS _ ws _ (rls_tail R.out _ (by decide)) (by rw [HW.out.2.2]; decide)).mono ?_; rintro e w2 ⟨u, q2, rfl, hb, hq⟩; unfold NumOk at hq; rw [HN.out] at hq; obtain ⟨rfl, hq⟩ := hq; obtain ⟨a, c9, rfl, _⟩ := rls4 hq; have g2 : w2.cell? q = some (.string w0) := (hb.cell gq).trans g0; obtain ⟨hc2, hf2⟩ := bcell hb; have hz2 : w.heap.size < w2.heap.size := Nat.lt_of_lt_of_le hz1 hb.size; have HB2 : Aside _ := hb; clear hb hq))
  all_goals simp [bodyPost, results, Tryd.results8, go_sem, *]
  refine ⟨_, rfl, rfl, ?_⟩
  repeat refine below_set ?_ (Nat.le_refl _)
  exact below_step HB2.out (below_step HB1.out (below_alloc (Below.refl _ _)))
set_option maxRecDepth 20000 in
set_option maxHeartbeats 4000000 in
theorem ReadLampS4 (s : ByteArray) (w : World) (hs : s.size ≤ 1048576) {w0 : ByteArray} {ws : List ByteArray} (hw : segsB s = w0 :: ws) (hl : ws.length = 4) {x0 x1 x2 x4 : Nat} (hn : numsV ws = some [x0, x1, x2, x4]) (hL : (w0.toList == [108, 97, 109, 112]) = true) (hS : (w0.toList == [115, 117, 110]) = false) (b : Bool)
    (hok : ∀ (W : World) (g : Nat), g < W.heap.size → (∀ k x, [Value.float .f32 x0, .float .f32 x1, .float .f32 x2, .bool false, .float .f32 x4][k]? = some x → W.cell? ⟨g, k, none⟩ = some x) → Calls Tryd.prog 18 #[.pointer (some ⟨g, 0, none⟩)] W (Gives (isB b) W)) : Calls Tryd.prog 8 #[.string s] w (Gives (fun v => v = if b then .tuple #[lamV x0 x1 x2 x4 false, .int .i64 0] else .tuple #[zeroL, .int .i64 5]) w) := by
  have HL := HLof hs
  have HW : Aside (segsB s = w0 :: ws ∧ (rS (w0 :: ws)).length = 5 ∧ ws.length = 4) := ⟨hw, by rw [rS_len]; simp [hl], hl⟩
  have HN : Aside (numsV ws = some [x0, x1, x2, x4]) := hn
  have HO : Aside (∀ (W : World) (g : Nat), g < W.heap.size → (∀ k x, [Value.float .f32 x0, .float .f32 x1, .float .f32 x2, .bool false, .float .f32 x4][k]? = some x → W.cell? ⟨g, k, none⟩ = some x) → Calls Tryd.prog 18 #[.pointer (some ⟨g, 0, none⟩)] W (Gives (isB b) W)) := hok
  clear hw hl hs hn hok
  go_enter Tryd.func8, Tryd.ntmps8
  go_wp2_with (first
    | (go_at_call 12; refine (SplitS' s _ HL.out.2).mono ?_; rintro e w' ⟨v, rfl, hR, hcap, hb⟩; rw [HW.out.1] at hR; obtain ⟨q, c, rfl⟩ := rls_ptr hR (x := [.string w0]) rfl; have R : Aside (Rls 1 w' (.slice (some q) (rS (w0 :: ws)).length c) (rS (w0 :: ws))) := hR; have g0 : w'.cell? q = some (.string w0) := rls_at hR (i := 0) rfl; have gq : q.block < w'.heap.size := rls_lt hR (i := 0) rfl; rw [HW.out.2.1] at R hcap ⊢; have hc12 : ¬ c = 1 := (by have := hcap _ _ _ rfl; have := HW.out.2.2; omega); have hc11 : (1 : Int) ≤ (c : Int) := (by have := hcap _ _ _ rfl; have := HW.out.2.2; omega); have hc13 : ((5 : Nat) : Int) ≤ (c : Int) := (by have := hcap _ _ _ rfl; omega); obtain ⟨hc1, hf1⟩ := bcell hb; have hz1 : w.heap.size < w'.heap.size := (by have := hb.size; simp at this; omega); (try simp at hc1 hf1); have HB1 : Aside _ := hb; clear hb hR hcap)
    | (go_at_call 11; refine (NumbersS _ ws _ (rls_tail R.out _ (by decide)) (by rw [HW.out.2.2]; decide)).mono ?_; rintro e w2 ⟨u, q2, rfl, hb, hq⟩; unfold NumOk at hq; rw [HN.out] at hq; obtain ⟨rfl, hq⟩ := hq; obtain ⟨a, c9, rfl, p0, y0, y1, y2, y3⟩ := rls4 hq; have g2 : w2.cell? q = some (.string w0) := (hb.cell gq).trans g0; have gq2 : q.block < w2.heap.size := Nat.lt_of_lt_of_le gq hb.size; obtain ⟨hc2, hf2⟩ := bcell hb; have hz2 : w.heap.size < w2.heap.size := Nat.lt_of_lt_of_le hz1 hb.size; have HB2 : Aside _ := hb; clear hb hq))
  have hK : ∀ W, Below w2.heap.size w2 W → W.cell? q = some (.string w0) ∧ W.cell? a = some (.float .f32 x0) ∧ W.cell? ⟨a.block, a.off + 1, none⟩ = some (.float .f32 x1) ∧ W.cell? ⟨a.block, a.off + 2, none⟩ = some (.float .f32 x2) ∧ W.cell? ⟨a.block, a.off + 3, none⟩ = some (.float .f32 x4) ∧ Below w2.heap.size w2 W := fun W hW => ⟨(hW.cell gq2).trans g2, (hW.cell p0).trans y0, (hW.cell (p := ⟨a.block, _, none⟩) p0).trans y1, (hW.cell (p := ⟨a.block, _, none⟩) p0).trans y2, (hW.cell (p := ⟨a.block, _, none⟩) p0).trans y3, hW⟩
  refine (show Cup0 ?finP → _ from fun hP => ?reg) ?fin
  case reg =>
    go_region_held3 (fun W => W.cell? q = some (.string w0) ∧ W.cell? a = some (.float .f32 x0) ∧ W.cell? ⟨a.block, a.off + 1, none⟩ = some (.float .f32 x1) ∧ W.cell? ⟨a.block, a.off + 2, none⟩ = some (.float .f32 x2) ∧ W.cell? ⟨a.block, a.off + 3, none⟩ = some (.float .f32 x4) ∧ Below w2.heap.size w2 W) (first | exact hK _ (Below.refl _ _) | exact hK _ (Below.drew (Below.refl _ _)) | exact hK _ (by repeat' first | exact Below.refl _ _ | assumption | refine below_alloc ?_ | refine Below.drew ?_ | refine below_set ?_ (by simp)) | go_keep) (first | fail)
    all_goals exact hP.out
  refine ⟨?_⟩
  have hz5 : w.heap.size < w2.heap.size + 1 := Nat.lt_succ_of_lt hz2
  have hz6 : ¬ w.heap.size = w2.heap.size := Nat.ne_of_lt hz2
  clear hK y0 y1 y2 y3
  cases b
  all_goals go_wp2_with (go_at_call 18; refine (HO.out _ _ (by simp) (by first | exact newC _ _ _ | (rw [hS]; exact newC _ _ _))).mono ?_; rintro e w3 ⟨_, rfl, eb, hb⟩; (simp only [isB] at eb; subst eb); obtain ⟨hc3, hf3⟩ := bcell hb; (try simp at hc3 hf3); have hz3 : w.heap.size < w3.heap.size := (by have := hb.size; simp at this; omega); have hz4 : w2.heap.size < w3.heap.size := (by have := hb.size; simp at this; omega); have HB3 : Aside _ := hb; clear hb)
  all_goals simp [bodyPost, results, Tryd.results8, go_sem, *]
  all_goals refine ⟨_, rfl, rfl, ?_⟩
  all_goals repeat refine below_set ?_ (Nat.le_refl _)
  all_goals exact below_step HB3.out (Below.drew (below_alloc (below_step HB2.out (below_step HB1.out (below_alloc (Below.refl _ _))))))
set_option maxRecDepth 20000 in
set_option maxHeartbeats 4000000 in
theorem ReadLampS5 (s : ByteArray) (w : World) (hs : s.size ≤ 1048576) {w0 : ByteArray} {ws : List ByteArray} (hw : segsB s = w0 :: ws) (hl : ws.length = 4) {x0 x1 x2 x4 : Nat} (hn : numsV ws = some [x0, x1, x2, x4]) (hL : (w0.toList == [108, 97, 109, 112]) = false) (hS : (w0.toList == [115, 117, 110]) = true) (b : Bool)
    (hok : ∀ (W : World) (g : Nat), g < W.heap.size → (∀ k x, [Value.float .f32 x0, .float .f32 x1, .float .f32 x2, .bool true, .float .f32 x4][k]? = some x → W.cell? ⟨g, k, none⟩ = some x) → Calls Tryd.prog 18 #[.pointer (some ⟨g, 0, none⟩)] W (Gives (isB b) W)) : Calls Tryd.prog 8 #[.string s] w (Gives (fun v => v = if b then .tuple #[lamV x0 x1 x2 x4 true, .int .i64 0] else .tuple #[zeroL, .int .i64 5]) w) := by
  have HL := HLof hs
  have HW : Aside (segsB s = w0 :: ws ∧ (rS (w0 :: ws)).length = 5 ∧ ws.length = 4) := ⟨hw, by rw [rS_len]; simp [hl], hl⟩
  have HN : Aside (numsV ws = some [x0, x1, x2, x4]) := hn
  have HO : Aside (∀ (W : World) (g : Nat), g < W.heap.size → (∀ k x, [Value.float .f32 x0, .float .f32 x1, .float .f32 x2, .bool true, .float .f32 x4][k]? = some x → W.cell? ⟨g, k, none⟩ = some x) → Calls Tryd.prog 18 #[.pointer (some ⟨g, 0, none⟩)] W (Gives (isB b) W)) := hok
  clear hw hl hs hn hok
  go_enter Tryd.func8, Tryd.ntmps8
  go_wp2_with (first
    | (go_at_call 12; refine (SplitS' s _ HL.out.2).mono ?_; rintro e w' ⟨v, rfl, hR, hcap, hb⟩; rw [HW.out.1] at hR; obtain ⟨q, c, rfl⟩ := rls_ptr hR (x := [.string w0]) rfl; have R : Aside (Rls 1 w' (.slice (some q) (rS (w0 :: ws)).length c) (rS (w0 :: ws))) := hR; have g0 : w'.cell? q = some (.string w0) := rls_at hR (i := 0) rfl; have gq : q.block < w'.heap.size := rls_lt hR (i := 0) rfl; rw [HW.out.2.1] at R hcap ⊢; have hc12 : ¬ c = 1 := (by have := hcap _ _ _ rfl; have := HW.out.2.2; omega); have hc11 : (1 : Int) ≤ (c : Int) := (by have := hcap _ _ _ rfl; have := HW.out.2.2; omega); have hc13 : ((5 : Nat) : Int) ≤ (c : Int) := (by have := hcap _ _ _ rfl; omega); obtain ⟨hc1, hf1⟩ := bcell hb; have hz1 : w.heap.size < w'.heap.size := (by have := hb.size; simp at this; omega); (try simp at hc1 hf1); have HB1 : Aside _ := hb; clear hb hR hcap)
    | (go_at_call 11; refine (NumbersS _ ws _ (rls_tail R.out _ (by decide)) (by rw [HW.out.2.2]; decide)).mono ?_; rintro e w2 ⟨u, q2, rfl, hb, hq⟩; unfold NumOk at hq; rw [HN.out] at hq; obtain ⟨rfl, hq⟩ := hq; obtain ⟨a, c9, rfl, p0, y0, y1, y2, y3⟩ := rls4 hq; have g2 : w2.cell? q = some (.string w0) := (hb.cell gq).trans g0; have gq2 : q.block < w2.heap.size := Nat.lt_of_lt_of_le gq hb.size; obtain ⟨hc2, hf2⟩ := bcell hb; have hz2 : w.heap.size < w2.heap.size := Nat.lt_of_lt_of_le hz1 hb.size; have HB2 : Aside _ := hb; clear hb hq))
  have hK : ∀ W, Below w2.heap.size w2 W → W.cell? q = some (.string w0) ∧ W.cell? a = some (.float .f32 x0) ∧ W.cell? ⟨a.block, a.off + 1, none⟩ = some (.float .f32 x1) ∧ W.cell? ⟨a.block, a.off + 2, none⟩ = some (.float .f32 x2) ∧ W.cell? ⟨a.block, a.off + 3, none⟩ = some (.float .f32 x4) ∧ Below w2.heap.size w2 W := fun W hW => ⟨(hW.cell gq2).trans g2, (hW.cell p0).trans y0, (hW.cell (p := ⟨a.block, _, none⟩) p0).trans y1, (hW.cell (p := ⟨a.block, _, none⟩) p0).trans y2, (hW.cell (p := ⟨a.block, _, none⟩) p0).trans y3, hW⟩
  refine (show Cup0 ?finP → _ from fun hP => ?reg) ?fin
  case reg =>
    go_region_held3 (fun W => W.cell? q = some (.string w0) ∧ W.cell? a = some (.float .f32 x0) ∧ W.cell? ⟨a.block, a.off + 1, none⟩ = some (.float .f32 x1) ∧ W.cell? ⟨a.block, a.off + 2, none⟩ = some (.float .f32 x2) ∧ W.cell? ⟨a.block, a.off + 3, none⟩ = some (.float .f32 x4) ∧ Below w2.heap.size w2 W) (first | exact hK _ (Below.refl _ _) | exact hK _ (Below.drew (Below.refl _ _)) | exact hK _ (by repeat' first | exact Below.refl _ _ | assumption | refine below_alloc ?_ | refine Below.drew ?_ | refine below_set ?_ (by simp)) | go_keep) (first | fail)
    all_goals exact hP.out
  refine ⟨?_⟩
  have hz5 : w.heap.size < w2.heap.size + 1 := Nat.lt_succ_of_lt hz2
  have hz6 : ¬ w.heap.size = w2.heap.size := Nat.ne_of_lt hz2
  clear hK y0 y1 y2 y3
  cases b
  all_goals go_wp2_with (go_at_call 18; refine (HO.out _ _ (by simp) (by first | exact newC _ _ _ | (rw [hS]; exact newC _ _ _))).mono ?_; rintro e w3 ⟨_, rfl, eb, hb⟩; (simp only [isB] at eb; subst eb); obtain ⟨hc3, hf3⟩ := bcell hb; (try simp at hc3 hf3); have hz3 : w.heap.size < w3.heap.size := (by have := hb.size; simp at this; omega); have hz4 : w2.heap.size < w3.heap.size := (by have := hb.size; simp at this; omega); have HB3 : Aside _ := hb; clear hb)
  all_goals simp [bodyPost, results, Tryd.results8, go_sem, *]
  all_goals refine ⟨_, rfl, rfl, ?_⟩
  all_goals repeat refine below_set ?_ (Nat.le_refl _)
  all_goals exact below_step HB3.out (Below.drew (below_alloc (below_step HB2.out (below_step HB1.out (below_alloc (Below.refl _ _))))))
end Go.Proofs.YtljpggeogiabgaaDoor
