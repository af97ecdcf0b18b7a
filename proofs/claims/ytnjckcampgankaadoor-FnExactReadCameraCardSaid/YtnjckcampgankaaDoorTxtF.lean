/- Contracts: cameras read from their texts (the model's side). -/
import Derived.Test.YtnjckcampgankaaDoorTxtD
import Derived.RegionTactic
import Derived.BigRegion
import Derived.Deep.RegionHeld3
namespace Go.Proofs.YtnjckcampgankaaDoor
open Go.ChangeShapes Go.WideShapes Go.ChangeAt Go.RowKit Go.Flo Go.Mem
set_option linter.unusedSimpArgs false
set_option linter.unusedVariables false
def camL : List UInt8 := [99, 97, 109, 101, 114, 97]
/-- the numbers of a camera's text, if its form is right -/
def camN (ws : List ByteArray) : Option (List Nat) := match ws with
  | [] => none
  | w0 :: rest => if rest.length = 11 ∧ (w0.toList == camL) = true then numsV rest else none
def zero11 : Value := .agg #[.float .f32 0, .float .f32 0, .float .f32 0, .float .f32 0, .float .f32 0, .float .f32 0, .float .f32 0, .float .f32 0, .float .f32 0, .float .f32 0, .float .f32 0]
theorem rls_at {w : World} {b : Addr} {n c : Nat} {rs : List (List Value)} (h : Rls 1 w (.slice (some b) n c) rs) {i : Nat} {x : Value} (hi : rs[i]? = some [x]) : w.cell? (b.add i) = some x := by
  obtain ⟨a, c', e, h2⟩ := h
  obtain ⟨b', e1, e2, e3⟩ := h2 i [x] hi
  cases e
  cases e1
  have := e3 0 x rfl
  rw [Nat.mul_one] at this
  have hz : (b.add i).add 0 = b.add i := by simp [Addr.add]
  rwa [hz] at this
theorem rls_ptr {w : World} {u : Value} {rs : List (List Value)} (h : Rls 1 w u rs) {x : List Value} (h0 : rs[0]? = some x) : ∃ b c, u = .slice (some b) rs.length c := by
  obtain ⟨b, c, e, _⟩ := h.at h0
  exact ⟨b, c, e⟩
/-- a slice without its first row -/
theorem rls_tail {w : World} {b : Addr} {n c : Nat} {r : List Value} {rs : List (List Value)} (h : Rls 1 w (.slice (some b) (n + 1) c) (r :: rs)) (c' : Nat) (hn : 0 < n) : Rls 1 w (.slice (some (b.add 1)) n c') rs := by
  obtain ⟨a, c1, e, h2⟩ := h
  simp at e
  obtain ⟨rfl, hl, rfl⟩ := e
  subst hl
  refine ⟨some (b.add 1), c', rfl, fun j q hq => ?_⟩
  obtain ⟨b', e1, e2, e3⟩ := h2 (j + 1) q (by simpa using hq)
  cases e1
  refine ⟨b.add 1, rfl, by rw [add_block']; exact e2, fun k x hx => ?_⟩
  have := e3 k x hx
  have hz : (b.add ((j + 1) * 1)).add k = ((b.add 1).add (j * 1)).add k := by
    simp [Addr.add]
    by_cases hj : j = 0 <;> by_cases hk : k = 0 <;> simp [hj, hk] <;> omega
  rwa [← hz]
--## ReadCameraS 10 21
theorem HLof {s : ByteArray} (hs : s.size ≤ 1048576) : Aside ((segsB s).length ≤ 1048577 ∧ s.size ≤ 1048576) := by
  have hL : (segsB s).length ≤ 1048577 := by rw [segsB_len]; exact Nat.le_trans (segs_len _) (Nat.succ_le_succ hs)
  exact ⟨hL, hs⟩
set_option maxRecDepth 20000 in
set_option maxHeartbeats 1000000 in
theorem ReadCameraS1 (s : ByteArray) (w : World) (hs : s.size ≤ 1048576) {w0 : ByteArray} {ws : List ByteArray} (hw : segsB s = w0 :: ws) (hl : ws.length = 11) (h0 : (w0.toList == [99, 97, 109, 101, 114, 97]) = false) : Calls Tryd.prog 10 #[.string s] w (Gives (fun v => v = .tuple #[zero11, .int .i64 5]) w) := by
  have HL := HLof hs
  have HW : Aside (segsB s = w0 :: ws ∧ (rS (w0 :: ws)).length = 12 ∧ ws.length = 11) := ⟨hw, by rw [rS_len]; simp [hl], hl⟩
  clear hw hl hs
  go_enter Tryd.func10, Tryd.ntmps10
  go_wp2_with (first
    | (go_at_call 22; refine (SplitS' s _ HL.out.2).mono ?_; rintro e w' ⟨v, rfl, hR, hcap, hb⟩; rw [HW.out.1] at hR; obtain ⟨q, c, rfl⟩ := rls_ptr hR (x := [.string w0]) rfl; have R : Aside (Rls 1 w' (.slice (some q) (rS (w0 :: ws)).length c) (rS (w0 :: ws))) := hR; have g0 : w'.cell? q = some (.string w0) := rls_at hR (i := 0) rfl; rw [HW.out.2.1] at R hcap ⊢; have hc12 : ¬ c = 1 := (by have := hcap _ _ _ rfl; omega); have hc11 : (1 : Int) ≤ (c : Int) := (by have := hcap _ _ _ rfl; omega); obtain ⟨hc1, hf1⟩ := bcell hb; have hz1 : w.heap.size < w'.heap.size := (by have := hb.size; simp at this; omega); (try simp at hc1 hf1); have HB1 : Aside _ := hb; clear hb hR hcap))
  all_goals simp [bodyPost, results, Tryd.results10, go_sem, *]
  refine ⟨_, rfl, rfl, ?_⟩
  repeat refine below_set ?_ (Nat.le_refl _)
  exact below_step HB1.out (below_alloc (Below.refl _ _))
set_option maxRecDepth 20000 in
set_option maxHeartbeats 1000000 in
theorem ReadCameraS2 (s : ByteArray) (w : World) (hs : s.size ≤ 1048576) {w0 : ByteArray} {ws : List ByteArray} (hw : segsB s = w0 :: ws) (hl : ws.length = 11) (h0 : (w0.toList == [99, 97, 109, 101, 114, 97]) = true) (hn : numsV ws = none) : Calls Tryd.prog 10 #[.string s] w (Gives (fun v => v = .tuple #[zero11, .int .i64 5]) w) := by
  have HL := HLof hs
  have HW : Aside (segsB s = w0 :: ws ∧ (rS (w0 :: ws)).length = 12 ∧ ws.length = 11 ∧ numsV ws = none) := ⟨hw, by rw [rS_len]; simp [hl], hl, hn⟩
  clear hw hl hs hn
  go_enter Tryd.func10, Tryd.ntmps10
  go_wp2_with (first
    | (go_at_call 22; refine (SplitS' s _ HL.out.2).mono ?_; rintro e w' ⟨v, rfl, hR, hcap, hb⟩; rw [HW.out.1] at hR; obtain ⟨q, c, rfl⟩ := rls_ptr hR (x := [.string w0]) rfl; have R : Aside (Rls 1 w' (.slice (some q) (rS (w0 :: ws)).length c) (rS (w0 :: ws))) := hR; have g0 : w'.cell? q = some (.string w0) := rls_at hR (i := 0) rfl; rw [HW.out.2.1] at R hcap ⊢; have hc12 : ¬ c = 1 := (by have := hcap _ _ _ rfl; omega); have hc11 : (1 : Int) ≤ (c : Int) := (by have := hcap _ _ _ rfl; omega); obtain ⟨hc1, hf1⟩ := bcell hb; have hz1 : w.heap.size < w'.heap.size := (by have := hb.size; simp at this; omega); (try simp at hc1 hf1); have HB1 : Aside _ := hb; clear hb hR hcap)
    | (go_at_call 21; refine (NumbersS _ ws _ (rls_tail R.out _ (by decide)) (by rw [HW.out.2.2.1]; decide)).mono ?_; rintro e w2 ⟨u, q2, rfl, hb, hq⟩; unfold NumOk at hq; rw [HW.out.2.2.2] at hq; subst hq; obtain ⟨hc2, hf2⟩ := bcell hb; have hz2 : w.heap.size < w2.heap.size := Nat.lt_of_lt_of_le hz1 hb.size; have HB2 : Aside _ := hb; clear hb))
  all_goals simp [bodyPost, results, Tryd.results10, go_sem, *]
  refine ⟨_, rfl, rfl, ?_⟩
  repeat refine below_set ?_ (Nat.le_refl _)
  exact below_step HB2.out (below_step HB1.out (below_alloc (Below.refl _ _)))
set_option maxRecDepth 20000 in
set_option maxHeartbeats 1000000 in
theorem ReadCameraS3 (s : ByteArray) (w : World) (hs : s.size ≤ 1048576) (hl : (segsB s).length ≠ 12) : Calls Tryd.prog 10 #[.string s] w (Gives (fun v => v = .tuple #[zero11, .int .i64 5]) w) := by
  have HL := HLof hs
  have hne : (((segsB s).length : Int) == 12) = false := by simp; omega
  have hne' : (((segsB s).length : Int) != 12) = true := by simp; omega
  clear hl hs
  go_enter Tryd.func10, Tryd.ntmps10
  go_wp2_with (first
    | (go_at_call 22; refine (SplitS s _ HL.out.2).mono ?_; rintro e w' ⟨v, rfl, hR, hb⟩; obtain ⟨a, c, rfl, _⟩ := hR; simp only [rS_len]; obtain ⟨hc1, hf1⟩ := bcell hb; have hz1 : w.heap.size < w'.heap.size := (by have := hb.size; simp at this; omega); (try simp at hc1 hf1); have HB1 : Aside _ := hb; clear hb))
  all_goals simp [bodyPost, results, Tryd.results10, go_sem, *]
  refine ⟨_, rfl, rfl, ?_⟩
  repeat refine below_set ?_ (Nat.le_refl _)
  exact below_step HB1.out (below_alloc (Below.refl _ _))
theorem newC (w : World) (cs : Array Value) (t : TypeId) : ∀ (k : Nat) (x : Value), cs.toList[k]? = some x → ((w.alloc (.cells cs t)).drew).cell? ⟨w.heap.size, k, none⟩ = some x := by
  intro k x h
  show (w.alloc (.cells cs t)).cell? ⟨w.heap.size, k, none⟩ = some x
  rw [World.cell?_alloc_at _ _ _ _ rfl]
  simpa using h
def camV (x0 x1 x2 x3 x4 x5 x6 x7 x8 x9 x10 : Nat) : Value := .agg #[.float .f32 x0, .float .f32 x1, .float .f32 x2, .float .f32 x3, .float .f32 x4, .float .f32 x5, .float .f32 x6, .float .f32 x7, .float .f32 x8, .float .f32 x9, .float .f32 x10]
theorem rls11 {w : World} {u : Value} {x0 x1 x2 x3 x4 x5 x6 x7 x8 x9 x10 : Nat} (h : Rls 1 w u (rF [x0, x1, x2, x3, x4, x5, x6, x7, x8, x9, x10])) : ∃ b c, u = .slice (some b) 11 c ∧ b.block < w.heap.size ∧ w.cell? b = some (.float .f32 x0) ∧ w.cell? ⟨b.block, b.off + 1, none⟩ = some (.float .f32 x1) ∧ w.cell? ⟨b.block, b.off + 2, none⟩ = some (.float .f32 x2) ∧ w.cell? ⟨b.block, b.off + 3, none⟩ = some (.float .f32 x3) ∧ w.cell? ⟨b.block, b.off + 4, none⟩ = some (.float .f32 x4) ∧ w.cell? ⟨b.block, b.off + 5, none⟩ = some (.float .f32 x5) ∧ w.cell? ⟨b.block, b.off + 6, none⟩ = some (.float .f32 x6) ∧ w.cell? ⟨b.block, b.off + 7, none⟩ = some (.float .f32 x7) ∧ w.cell? ⟨b.block, b.off + 8, none⟩ = some (.float .f32 x8) ∧ w.cell? ⟨b.block, b.off + 9, none⟩ = some (.float .f32 x9) ∧ w.cell? ⟨b.block, b.off + 10, none⟩ = some (.float .f32 x10) := by
  obtain ⟨b, c, rfl, h0, _⟩ := h.at (i := 0) (r := [.float .f32 x0]) rfl
  refine ⟨b, c, rfl, by rw [add_block'] at h0; exact h0, rls_at h (i := 0) rfl, rls_at h (i := 1) rfl, rls_at h (i := 2) rfl, rls_at h (i := 3) rfl, rls_at h (i := 4) rfl, rls_at h (i := 5) rfl, rls_at h (i := 6) rfl, rls_at h (i := 7) rfl, rls_at h (i := 8) rfl, rls_at h (i := 9) rfl, rls_at h (i := 10) rfl⟩
set_option maxRecDepth 20000 in
set_option maxHeartbeats 4000000 in
theorem ReadCameraS4 (s : ByteArray) (w : World) (hs : s.size ≤ 1048576) {w0 : ByteArray} {ws : List ByteArray} (hw : segsB s = w0 :: ws) (hl : ws.length = 11) (h0 : (w0.toList == [99, 97, 109, 101, 114, 97]) = true) {x0 x1 x2 x3 x4 x5 x6 x7 x8 x9 x10 : Nat} (hn : numsV ws = some [x0, x1, x2, x3, x4, x5, x6, x7, x8, x9, x10]) (b : Bool)
    (hok : ∀ (W : World) (g : Nat), g < W.heap.size → (∀ k x, [.float .f32 x0, .float .f32 x1, .float .f32 x2, .float .f32 x3, .float .f32 x4, .float .f32 x5, .float .f32 x6, .float .f32 x7, .float .f32 x8, .float .f32 x9, .float .f32 x10][k]? = some x → W.cell? ⟨g, k, none⟩ = some x) → Calls Tryd.prog 28 #[.pointer (some ⟨g, 0, none⟩)] W (Gives (isB b) W)) : Calls Tryd.prog 10 #[.string s] w (Gives (fun v => v = if b then .tuple #[camV x0 x1 x2 x3 x4 x5 x6 x7 x8 x9 x10, .int .i64 0] else .tuple #[zero11, .int .i64 5]) w) := by
  have HL := HLof hs
  have HW : Aside (segsB s = w0 :: ws ∧ (rS (w0 :: ws)).length = 12 ∧ ws.length = 11 ∧ numsV ws = some [x0, x1, x2, x3, x4, x5, x6, x7, x8, x9, x10]) := ⟨hw, by rw [rS_len]; simp [hl], hl, hn⟩
  have HO : Aside (∀ (W : World) (g : Nat), g < W.heap.size → (∀ k x, [.float .f32 x0, .float .f32 x1, .float .f32 x2, .float .f32 x3, .float .f32 x4, .float .f32 x5, .float .f32 x6, .float .f32 x7, .float .f32 x8, .float .f32 x9, .float .f32 x10][k]? = some x → W.cell? ⟨g, k, none⟩ = some x) → Calls Tryd.prog 28 #[.pointer (some ⟨g, 0, none⟩)] W (Gives (isB b) W)) := hok
  clear hw hl hs hn hok
  go_enter Tryd.func10, Tryd.ntmps10
  go_wp2_with (first
    | (go_at_call 22; refine (SplitS' s _ HL.out.2).mono ?_; rintro e w' ⟨v, rfl, hR, hcap, hb⟩; rw [HW.out.1] at hR; obtain ⟨q, c, rfl⟩ := rls_ptr hR (x := [.string w0]) rfl; have R : Aside (Rls 1 w' (.slice (some q) (rS (w0 :: ws)).length c) (rS (w0 :: ws))) := hR; have g0 : w'.cell? q = some (.string w0) := rls_at hR (i := 0) rfl; rw [HW.out.2.1] at R hcap ⊢; have hc12 : ¬ c = 1 := (by have := hcap _ _ _ rfl; omega); have hc11 : (1 : Int) ≤ (c : Int) := (by have := hcap _ _ _ rfl; omega); obtain ⟨hc1, hf1⟩ := bcell hb; have hz1 : w.heap.size < w'.heap.size := (by have := hb.size; simp at this; omega); (try simp at hc1 hf1); have HB1 : Aside _ := hb; clear hb hR hcap)
    | (go_at_call 21; refine (NumbersS _ ws _ (rls_tail R.out _ (by decide)) (by rw [HW.out.2.2.1]; decide)).mono ?_; rintro e w2 ⟨u, q2, rfl, hb, hq⟩; unfold NumOk at hq; rw [HW.out.2.2.2] at hq; obtain ⟨rfl, hq⟩ := hq; obtain ⟨p, cp, rfl, p0, y0, y1, y2, y3, y4, y5, y6, y7, y8, y9, y10⟩ := rls11 hq; obtain ⟨hc2, hf2⟩ := bcell hb; have hz2 : w.heap.size < w2.heap.size := Nat.lt_of_lt_of_le hz1 hb.size; have HB2 : Aside _ := hb; clear hb hq))
  have hK : ∀ W, Below w2.heap.size w2 W → W.cell? p = some (.float .f32 x0) ∧ W.cell? ⟨p.block, p.off + 1, none⟩ = some (.float .f32 x1) ∧ W.cell? ⟨p.block, p.off + 2, none⟩ = some (.float .f32 x2) ∧ W.cell? ⟨p.block, p.off + 3, none⟩ = some (.float .f32 x3) ∧ W.cell? ⟨p.block, p.off + 4, none⟩ = some (.float .f32 x4) ∧ W.cell? ⟨p.block, p.off + 5, none⟩ = some (.float .f32 x5) ∧ W.cell? ⟨p.block, p.off + 6, none⟩ = some (.float .f32 x6) ∧ W.cell? ⟨p.block, p.off + 7, none⟩ = some (.float .f32 x7) ∧ W.cell? ⟨p.block, p.off + 8, none⟩ = some (.float .f32 x8) ∧ W.cell? ⟨p.block, p.off + 9, none⟩ = some (.float .f32 x9) ∧ W.cell? ⟨p.block, p.off + 10, none⟩ = some (.float .f32 x10) ∧ Below w2.heap.size w2 W := fun W hW => ⟨(hW.cell p0).trans y0, (hW.cell (p := ⟨p.block, _, none⟩) p0).trans y1, (hW.cell (p := ⟨p.block, _, none⟩) p0).trans y2, (hW.cell (p := ⟨p.block, _, none⟩) p0).trans y3, (hW.cell (p := ⟨p.block, _, none⟩) p0).trans y4, (hW.cell (p := ⟨p.block, _, none⟩) p0).trans y5, (hW.cell (p := ⟨p.block, _, none⟩) p0).trans y6, (hW.cell (p := ⟨p.block, _, none⟩) p0).trans y7, (hW.cell (p := ⟨p.block, _, none⟩) p0).trans y8, (hW.cell (p := ⟨p.block, _, none⟩) p0).trans y9, (hW.cell (p := ⟨p.block, _, none⟩) p0).trans y10, hW⟩
  go_region_held3 (fun W => W.cell? p = some (.float .f32 x0) ∧ W.cell? ⟨p.block, p.off + 1, none⟩ = some (.float .f32 x1) ∧ W.cell? ⟨p.block, p.off + 2, none⟩ = some (.float .f32 x2) ∧ W.cell? ⟨p.block, p.off + 3, none⟩ = some (.float .f32 x3) ∧ W.cell? ⟨p.block, p.off + 4, none⟩ = some (.float .f32 x4) ∧ W.cell? ⟨p.block, p.off + 5, none⟩ = some (.float .f32 x5) ∧ W.cell? ⟨p.block, p.off + 6, none⟩ = some (.float .f32 x6) ∧ W.cell? ⟨p.block, p.off + 7, none⟩ = some (.float .f32 x7) ∧ W.cell? ⟨p.block, p.off + 8, none⟩ = some (.float .f32 x8) ∧ W.cell? ⟨p.block, p.off + 9, none⟩ = some (.float .f32 x9) ∧ W.cell? ⟨p.block, p.off + 10, none⟩ = some (.float .f32 x10) ∧ Below w2.heap.size w2 W) (first | exact hK _ (Below.refl _ _) | exact hK _ (Below.drew (Below.refl _ _)) | exact hK _ (by repeat' first | exact Below.refl _ _ | assumption | refine below_alloc ?_ | refine Below.drew ?_ | refine below_set ?_ (by simp)) | go_keep) (first | fail)
  have hz5 : w.heap.size < w2.heap.size + 1 := Nat.lt_succ_of_lt hz2
  have hz6 : ¬ w.heap.size = w2.heap.size := Nat.ne_of_lt hz2
  clear hK y0 y1 y2 y3 y4 y5 y6 y7 y8 y9 y10
  cases b
  all_goals go_wp2_with (go_at_call 28; refine (HO.out _ _ (by simp) (newC _ _ _)).mono ?_; rintro e w3 ⟨_, rfl, eb, hb⟩; (simp only [isB] at eb; subst eb); obtain ⟨hc3, hf3⟩ := bcell hb; (try simp at hc3 hf3); have hz3 : w.heap.size < w3.heap.size := (by have := hb.size; simp at this; omega); have hz4 : w2.heap.size < w3.heap.size := (by have := hb.size; simp at this; omega); have HB3 : Aside _ := hb; clear hb)
  all_goals simp [bodyPost, results, Tryd.results10, go_sem, *]
  all_goals refine ⟨_, rfl, rfl, ?_⟩
  all_goals repeat refine below_set ?_ (Nat.le_refl _)
  all_goals exact below_step HB3.out (Below.drew (below_alloc (below_step HB2.out (below_step HB1.out (below_alloc (Below.refl _ _))))))
end Go.Proofs.YtnjckcampgankaaDoor
