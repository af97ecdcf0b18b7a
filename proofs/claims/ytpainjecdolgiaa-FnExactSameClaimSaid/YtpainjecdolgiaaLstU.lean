/- Contracts: solids are copied, measured, compared. -/
import Derived.Test.YtpainjecdolgiaaLstS
namespace Go.Proofs.Ytpainjecdolgiaa
--## d
open Go.ChangeShapes Go.WideShapes Go.ChangeAt Go.RowKit Go.Flo Go.Mem
set_option linter.unusedSimpArgs false
set_option linter.unusedVariables false
set_option maxRecDepth 20000
--## d
theorem hi_mk {B g l c : Nat} (h : B ≤ g) : Hi B (.slice (some ⟨g, 0, none⟩) l c) := fun b l' c' e => by cases e; exact h
--## d
theorem Hi.low {B C : Nat} {v : Value} (h : Hi B v) (hc : C ≤ B) : Hi C v := fun b l c e => Nat.le_trans hc (h b l c e)
--## d
theorem FlsH.low {B C : Nat} {w : World} {v : Value} {fs : List (List Int)} (h : FlsH B w v fs) (hc : C ≤ B) : FlsH C w v fs := by
  obtain ⟨vs, h1, h2, h3, h4⟩ := h
  exact ⟨vs, h1, h2, h3.low hc, fun j u z hu hz => ⟨(h4 j u z hu hz).1, (h4 j u z hu hz).2.low hc⟩⟩
--## d
theorem toT' (v : Value) (ts : List V3n) (w : World) (hP : Rls 3 w v (rT ts)) (hn : ts.length ≤ 1048576) :
    Calls Try.prog 50 #[v] w (fun e w' => ∃ x, e = .returned x ∧ Rls 3 w' x (rT ts) ∧ Hi w.heap.size x ∧ Below w.heap.size w w') :=
  (toT v ts w hP hn).mono fun e w' ⟨he, cs, hM, hc⟩ => by
    subst hc
    have hx := rls_flat (rs := rT ts) rT_row hM (List.mem_singleton.2 rfl)
    rw [rT_len] at hx
    exact ⟨_, he, hx, hi_mk (Nat.le_refl _), hM.below⟩
--## d
set_option maxRecDepth 20000 in
set_option maxHeartbeats 4000000 in
theorem toSol (v u : Value) (ts : List V3n) (fs : List (List Int)) (w : World) (hP : Rls 3 w v (rT ts)) (hQ : Fls w u fs) (hn : ts.length ≤ 1048576) (hf : okF fs) :
    Calls Try.prog 41 #[.agg #[v, u]] w (fun e w' => ∃ x y, e = .returned (.agg #[x, y]) ∧ Rls 3 w' x (rT ts) ∧ Fls w' y fs ∧ Below w.heap.size w w') := by
  go_enter Try.func41, Try.ntmps41
  go_wp2_with (first
    | (go_at_call 50; refine (toT' _ ts _ (hP.below (below_alloc (below_alloc (below_alloc (Below.refl _ _))))) hn).mono ?_; rintro e w' ⟨x, rfl, hx, hi, hb⟩; have hx' := hx; obtain ⟨xa, xc, rfl, -⟩ := hx'; obtain ⟨hc1, hf1⟩ := bcell hb; (try simp at hc1 hf1); have hs := hb.size; (try simp at hs); have hza : w.heap.size < w'.heap.size := (by omega); have hzb : w.heap.size + 1 < w'.heap.size := (by omega); have hzc : w.heap.size + 1 + 1 < w'.heap.size := (by omega); have HB1 := Lib.hid hb; have HX := Lib.hid hx; have HI := Lib.hid hi; clear hb hs hx hi)
    | (go_at_call 51; refine (toF _ fs _ (hQ.below (below_set (below_step HB1 (below_alloc (below_alloc (below_alloc (Below.refl _ _))))) (by simp; omega))) hf.1 hf.2).mono ?_; rintro e w'' ⟨y, rfl, hy, hb⟩; have hy' := hy; obtain ⟨_, hy1, ⟨ya, yc, he, -⟩, -⟩ := hy'; rw [List.length_map, hy1] at he; subst he; clear hy1; obtain ⟨hc2, hf2⟩ := bcell hb; (try simp at hc2 hf2); have hs := hb.size; (try simp at hs); have hzd : w.heap.size < w''.heap.size := (by omega); have hze : w.heap.size + 1 < w''.heap.size := (by omega); have hzf : w.heap.size + 1 + 1 < w''.heap.size := (by omega); have HB2 := Lib.hid hb; have HY := Lib.hid hy; clear hb hs hy))
  simp [bodyPost, results, Try.results41, go_sem, *]
  refine ⟨_, _, ⟨rfl, rfl⟩, ?_, ?_, ?_⟩
  · refine Rls.set (B := w.heap.size + 3) (Rls.set (B := w.heap.size + 3) (Rls.set (B := w.heap.size + 3) ((Rls.set (B := w.heap.size + 3) HX.out (HI.out.low ?_) ?_).below HB2.out) (HI.out.low ?_) ?_) (HI.out.low ?_) ?_) (HI.out.low ?_) ?_ <;> (first | (simp; done) | (simp; omega))
  · refine (FlsH.fls (FlsH.set (B := w.heap.size + 3) (FlsH.set (FlsH.set (HY.out.low ?_) ?_) ?_) ?_)) <;> (first | (simp; done) | (simp; omega))
  · refine below_set (below_set (below_set (below_step HB2.out (below_set (below_step HB1.out (below_alloc (below_alloc (below_alloc (Below.refl _ _))))) ?_)) ?_) ?_) ?_ <;> (first | (simp; done) | (simp; omega))
--## d
set_option maxRecDepth 20000 in
set_option maxHeartbeats 400000 in
theorem eqSol (v u v2 u2 : Value) (ts : List V3n) (fs : List (List Int)) (w : World) (hP : Rls 3 w v (rT ts)) (hQ : Fls w u fs) (hP2 : Rls 3 w v2 (rT ts)) (hQ2 : Fls w u2 fs) (hn : ts.length ≤ 1048576) (hf : okF fs) :
    Calls Try.prog 44 #[.agg #[v, u], .agg #[v2, u2]] w (Gives (isB true) w) := by
  have A : Aside (Rls 3 w v (rT ts) ∧ Fls w u fs ∧ Rls 3 w v2 (rT ts) ∧ Fls w u2 fs ∧ okF fs ∧ ts.length ≤ 1048576) := ⟨hP, hQ, hP2, hQ2, hf, hn⟩
  obtain ⟨a1, c1, rfl, _⟩ := hP
  obtain ⟨a2, c2, rfl, _⟩ := hP2
  obtain ⟨a3, c3, rfl⟩ := hQ.slice
  obtain ⟨a4, c4, rfl⟩ := hQ2.slice
  clear hQ hQ2 hn hf
  go_enter Try.func44, Try.ntmps44
  go_wp2_with (first
    | (go_at_call 52; refine (eqT _ _ ts _ (A.out.1.below (below_alloc (below_alloc (Below.refl _ _)))) (A.out.2.2.1.below (below_alloc (below_alloc (Below.refl _ _)))) A.out.2.2.2.2.2).mono ?_; rintro e w' ⟨_, rfl, eb, hb⟩; cases eb; obtain ⟨hc1, hf1⟩ := bcell hb; (try simp at hc1 hf1); have HB1 : Aside (Below w.heap.size w w') := (below_step hb (below_alloc (below_alloc (Below.refl _ _)))); clear hb hf1)
    | (go_at_call 53; refine (eqF _ _ fs _ (A.out.2.1.below HB1.out) (A.out.2.2.2.1.below HB1.out) A.out.2.2.2.2.1).mono ?_; rintro e w'' ⟨_, rfl, eb, hb⟩; cases eb; have HB2 : Aside (Below w.heap.size w w'') := below_step hb HB1.out; clear hb))
  all_goals simp [bodyPost, results, Try.results44, go_sem]
  all_goals exact ⟨_, rfl, rfl, HB2.out⟩
--## d
set_option maxRecDepth 20000 in
set_option maxHeartbeats 400000 in
theorem szSol (v u : Value) (ts : List V3n) (fs : List (List Int)) (L : Int) (w : World) (hP : Rls 3 w v (rT ts)) (hQ : Fls w u fs) (hc : ts.length < 2 ^ 63) (hcf : fs.length < 2 ^ 63) (hcz : ∀ z ∈ fs, z.length < 2 ^ 63) (hL : 0 ≤ L ∧ L ≤ 1048576) :
    Calls Try.prog 38 #[.agg #[v, u], .int .i64 L] w (Gives (fun r => ∃ l : Int, r = .int .i64 l ∧ l ≤ 1048576 ∧ (0 ≤ l → ts.length ≤ 1048576 ∧ okF fs)) w) := by
  have A : Aside (Rls 3 w v (rT ts) ∧ Fls w u fs ∧ ts.length < 2 ^ 63 ∧ fs.length < 2 ^ 63 ∧ (∀ z ∈ fs, z.length < 2 ^ 63) ∧ 0 ≤ L ∧ L ≤ 1048576) := ⟨hP, hQ, hc, hcf, hcz, hL⟩
  obtain ⟨a1, c1, rfl, _⟩ := hP
  obtain ⟨a3, c3, rfl⟩ := hQ.slice
  clear hQ hc hcf hcz hL
  by_cases h : (ts.length : Int) ≤ L
  · have h1 : ¬ (L - (ts.length : Int) < 0) := by omega
    go_enter Try.func38, Try.ntmps38
    go_wp2_with (first
      | (go_at_call 47; refine (szT _ ts _ _ (A.out.1.below (below_alloc (Below.refl _ _))) A.out.2.2.1 A.out.2.2.2.2.2).mono ?_; rintro e w' ⟨_, rfl, eb, hb⟩; rw [if_pos h] at eb; cases eb; obtain ⟨hc1, hf1⟩ := bcell hb; (try simp at hc1 hf1); have HB1 : Aside (Below w.heap.size w w') := (below_step hb (below_alloc (Below.refl _ _))); clear hb hf1)
      | (go_at_call 48; refine (szF _ fs _ _ (A.out.2.1.below HB1.out) A.out.2.2.2.1 A.out.2.2.2.2.1 (by have := A.out.2.2.2.2.2; omega)).mono ?_; rintro e w'' ⟨_, rfl, ⟨l, rfl, hl1, hl2⟩, hb⟩; have HB2 : Aside (Below w.heap.size w w'') := below_step hb HB1.out; have HL : Aside (l ≤ 1048576 ∧ (0 ≤ l → okF fs)) := ⟨hl1, hl2⟩; clear hb hl1 hl2))
    all_goals simp [bodyPost, results, Try.results38, go_sem]
    all_goals first
      | exact ⟨_, rfl, ⟨_, rfl, by omega, fun h0 => by omega⟩, HB2.out⟩
      | exact ⟨_, rfl, ⟨_, rfl, HL.out.1, fun h0 => ⟨by have := A.out.2.2.2.2.2; omega, HL.out.2 h0⟩⟩, HB2.out⟩
  · go_enter Try.func38, Try.ntmps38
    go_wp2_with (first
      | (go_at_call 47; refine (szT _ ts _ _ (A.out.1.below (below_alloc (Below.refl _ _))) A.out.2.2.1 A.out.2.2.2.2.2).mono ?_; rintro e w' ⟨_, rfl, eb, hb⟩; rw [if_neg h] at eb; cases eb; have HB1 : Aside (Below w.heap.size w w') := (below_step hb (below_alloc (Below.refl _ _))); clear hb))
    all_goals simp [bodyPost, results, Try.results38, go_sem]
    all_goals exact ⟨_, rfl, ⟨_, rfl, by omega, fun h0 => by omega⟩, HB1.out⟩
--## d
end Go.Proofs.Ytpainjecdolgiaa
