/- Contracts: solids compared with others. -/
import Derived.Test.YtpainjecdolgiaaLstU
namespace Go.Proofs.Ytpainjecdolgiaa
--## d
open Go.ChangeShapes Go.WideShapes Go.ChangeAt Go.RowKit Go.Flo Go.Mem
set_option linter.unusedSimpArgs false
set_option linter.unusedVariables false
set_option maxRecDepth 20000
--## d
def sameT (p q : V3n) : Bool := samePt (cp p.1 p.2.1 p.2.2) (cp q.1 q.2.1 q.2.2)
--## d
def sameTs (ts rs : List V3n) : Bool := decide (ts.length = rs.length) && (List.range ts.length).all fun i => sameT (ts.getD i (0, 0, 0)) (rs.getD i (0, 0, 0))
--## d
theorem range_step {n i : Nat} {f : Nat → Bool} (hi : i < n) (h : (List.range i).all f = true) : (List.range (i + 1)).all f = f i := by
  rw [List.range_succ, List.all_append, h]; simp
--## d
theorem range_bad {n i : Nat} {f : Nat → Bool} (hi : i < n) (h : f i = false) : (List.range n).all f = false := by
  rw [List.all_eq_false]; exact ⟨i, List.mem_range.2 hi, by simp [h]⟩
--## d
theorem getD_of {α : Type} {l : List α} {i : Nat} {x d : α} (h : l[i]? = some x) : l.getD i d = x := by rw [List.getD_eq_getElem?_getD, h]; rfl
--## d
theorem take_eq_step {zs ys : List Int} {i : Nat} {z y : Int} (hz : zs[i]? = some z) (hy : ys[i]? = some y) (h : zs.take i = ys.take i) : zs.take (i + 1) = ys.take (i + 1) ↔ z = y := by
  rw [List.take_succ_eq_append_getElem (List.getElem?_eq_some_iff.1 hz).1, List.take_succ_eq_append_getElem (List.getElem?_eq_some_iff.1 hy).1, (List.getElem?_eq_some_iff.1 hz).2, (List.getElem?_eq_some_iff.1 hy).2, h]
  simp
--## d
set_option maxRecDepth 20000 in
set_option maxHeartbeats 1000000 in
theorem eqI2 (v u : Value) (zs ys : List Int) (w : World) (hP : Rls 1 w v (rI zs)) (hQ : Rls 1 w u (rI ys)) (hn : zs.length ≤ 1048576) :
    Calls Try.prog 21 #[v, u] w (Gives (isB (decide (zs = ys))) w) := by
  have hP' := hP
  have hQ' := hQ
  obtain ⟨a, c, rfl, _⟩ := hP
  obtain ⟨a2, c2, rfl, _⟩ := hQ
  simp only [rI_len] at hP' hQ' ⊢
  by_cases hl : zs.length = ys.length
  · have hl' : (ys.length : Int) = (zs.length : Int) := by omega
    rw [← hl] at hQ' ⊢
    go_enter Try.func21, Try.ntmps21
    go_wp2_with fail
    go_loopg [13] zs.length (fun k s13 wr => ∃ (i : Nat), s13 = .int .i64 i ∧ i + k = zs.length ∧ zs.take i = ys.take i ∧ Below w.heap.size w wr)
    · exact ⟨0, rfl, by omega, rfl, Below.refl _ _⟩
    · obtain ⟨i, rfl, hik, ht, HB⟩ := hrel
      have B : Aside (i + gk = zs.length ∧ zs.take i = ys.take i ∧ Below w.heap.size w wr ∧ zs.length ≤ 1048576 ∧ zs.length = ys.length) := ⟨hik, ht, HB, hn, hl⟩
      by_cases hi : i < zs.length
      · obtain ⟨z, hz⟩ : ∃ z, zs[i]? = some z := ⟨zs[i], List.getElem?_eq_getElem hi⟩
        obtain ⟨y, hy⟩ : ∃ y, ys[i]? = some y := ⟨ys[i]'(by omega), List.getElem?_eq_getElem (by omega)⟩
        obtain ⟨b, c1, e1, hb1, hc1⟩ := (hP'.below HB).at (rI_get hz)
        obtain ⟨b2, c3, e2, hb2, hc2⟩ := (hQ'.below HB).at (rI_get hy)
        rw [rI_len] at e1 e2
        rw [← hl] at e2
        cases e1; cases e2
        have hi' : (i : Int) < (zs.length : Int) := by omega
        have hi0 : (0 : Int) ≤ (i : Int) := Int.natCast_nonneg _
        have hx0 : wr.cell? (b.add i) = some (.int .i16 z) := by have := hc1 0 _ rfl; rw [Nat.mul_one] at this; exact this
        have hx1 : wr.cell? (b2.add i) = some (.int .i16 y) := by have := hc2 0 _ rfl; rw [Nat.mul_one] at this; exact this
        have C : Aside (zs[i]? = some z ∧ ys[i]? = some y) := ⟨hz, hy⟩
        rw [Nat.mul_one] at hb1 hb2
        have hK : ∀ W, Below wr.heap.size wr W → W.cell? (b.add i) = some (.int .i16 z) ∧ W.cell? (b2.add i) = some (.int .i16 y) ∧ Below wr.heap.size wr W := fun W hW => ⟨by rw [hW.cell hb1]; exact hx0, by rw [hW.cell hb2]; exact hx1, hW⟩
        clear hz hy hik ht hP' hQ' HB hb1 hb2 hc1 hc2 hx0 hx1 hl hl'
        go_wp2_with fail
        go_region_held3 (fun W => W.cell? (b.add i) = some (.int .i16 z) ∧ W.cell? (b2.add i) = some (.int .i16 y) ∧ Below wr.heap.size wr W) (first | exact hK _ (Below.refl _ _) | exact hK _ (Below.drew (Below.refl _ _)) | exact hK _ (Below.drew (And.right (And.right (by assumption)))) | go_keep) (first | fail)
        all_goals go_wp2_with fail
        all_goals obtain ⟨hik, ht, HB, hn', hl⟩ := B.out
        · simp [bodyPost, results, Try.results21, go_sem]
          have hne : z ≠ y := by simp_all
          refine ⟨_, rfl, ?_, below_step (And.right (And.right (by assumption))) HB⟩
          have : zs ≠ ys := fun e => hne (by subst e; exact Option.some.inj (C.out.1.symm.trans C.out.2))
          simp [isB, this]
        · have he : z = y := by simp_all
          go_roundg (gk - 1)
          · refine ⟨i + 1, ?_, by omega, (take_eq_step C.out.1 C.out.2 ht).2 he, below_step (And.right (And.right (by assumption))) HB⟩
            first
              | (congr 1; done)
              | (congr 1; unfold wrap64; omega)
          · omega
      · have hi' : ¬ ((i : Int) < (zs.length : Int)) := by omega
        have hie : i = zs.length := by omega
        clear hP' hQ'
        go_wp2_with fail
        simp [bodyPost, results, Try.results21, go_sem]
        refine ⟨_, rfl, ?_, HB⟩
        rw [hie, List.take_of_length_le (Nat.le_refl _), List.take_of_length_le (by omega)] at ht
        simp [isB, ht]
  · have hl' : ¬ ((zs.length : Int) = (ys.length : Int)) := by omega
    go_enter Try.func21, Try.ntmps21
    go_wp2_with fail
    all_goals simp [bodyPost, results, Try.results21, go_sem]
    all_goals exact ⟨_, rfl, (by simp [isB]; intro h; exact hl (by rw [h])), Below.refl _ _⟩
--## d
def upT (ts rs : List V3n) (n : Nat) : Bool := (List.range n).all fun i => sameT (ts.getD i (0, 0, 0)) (rs.getD i (0, 0, 0))
--## d
theorem upT_step {ts rs : List V3n} {n i : Nat} {p q : V3n} (hi : i < n) (hp : ts.getD i (0, 0, 0) = p) (hq : rs.getD i (0, 0, 0) = q) (h : upT ts rs i = true) : upT ts rs (i + 1) = sameT p q := by
  have := range_step (f := fun i => sameT (ts.getD i (0, 0, 0)) (rs.getD i (0, 0, 0))) hi h
  unfold upT; rw [this, hp, hq]
--## d
theorem upT_bad {ts rs : List V3n} {n i : Nat} {p q : V3n} (hi : i < n) (hp : ts.getD i (0, 0, 0) = p) (hq : rs.getD i (0, 0, 0) = q) (h : sameT p q = false) : upT ts rs n = false :=
  range_bad hi (by rw [hp, hq]; exact h)
--## d
theorem sameTs_len {ts rs : List V3n} (h : ts.length ≠ rs.length) : sameTs ts rs = false := by simp [sameTs, h]
--## d
theorem sameTs_eq {ts rs : List V3n} (h : ts.length = rs.length) : sameTs ts rs = upT ts rs ts.length := by simp [sameTs, upT, h]
--## d
set_option maxRecDepth 20000 in
set_option maxHeartbeats 1000000 in
theorem eqfT (v u : Value) (ts rs : List V3n) (w : World) (hP : Rls 3 w v (rT ts)) (hQ : Rls 3 w u (rT rs)) (hn : ts.length ≤ 1048576) :
    Calls Try.prog 42 #[v, u, .func (.func 19) #[] #[]] w (Gives (isB (sameTs ts rs)) w) := by
  have hP' := hP
  have hQ' := hQ
  obtain ⟨a, c, rfl, _⟩ := hP
  obtain ⟨a2, c2, rfl, _⟩ := hQ
  simp only [rT_len] at hP' hQ' ⊢
  by_cases hl : ts.length = rs.length
  · have hl' : (rs.length : Int) = (ts.length : Int) := by omega
    rw [sameTs_eq hl]
    rw [← hl] at hQ' ⊢
    go_enter Try.func42, Try.ntmps42
    go_wp2_with fail
    go_loopg [17] ts.length (fun k s17 wr => ∃ (i : Nat), s17 = .int .i64 i ∧ i + k = ts.length ∧ upT ts rs i = true ∧ Below w.heap.size w wr)
    · exact ⟨0, rfl, by omega, rfl, Below.refl _ _⟩
    · obtain ⟨i, rfl, hik, ht, HB⟩ := hrel
      have B : Aside (i + gk = ts.length ∧ upT ts rs i = true ∧ Below w.heap.size w wr ∧ ts.length ≤ 1048576 ∧ ts.length = rs.length) := ⟨hik, ht, HB, hn, hl⟩
      by_cases hi : i < ts.length
      · obtain ⟨⟨p0, p1, p2⟩, hz⟩ : ∃ z, ts[i]? = some z := ⟨ts[i], List.getElem?_eq_getElem hi⟩
        obtain ⟨⟨q0, q1, q2⟩, hy⟩ : ∃ y, rs[i]? = some y := ⟨rs[i]'(by omega), List.getElem?_eq_getElem (by omega)⟩
        obtain ⟨b, c1, e1, hb1, hc1⟩ := (hP'.below HB).at (rT_get hz)
        obtain ⟨b2, c3, e2, hb2, hc2⟩ := (hQ'.below HB).at (rT_get hy)
        rw [rT_len] at e1 e2
        rw [← hl] at e2
        cases e1; cases e2
        have hi' : (i : Int) < (ts.length : Int) := by omega
        have hi0 : (0 : Int) ≤ (i : Int) := Int.natCast_nonneg _
        have C : Aside (ts.getD i (0, 0, 0) = (p0, p1, p2) ∧ rs.getD i (0, 0, 0) = (q0, q1, q2) ∧ i < ts.length) := ⟨getD_of hz, getD_of hy, hi⟩
        have D : Aside (((b.add (i * 3)).block < wr.heap.size ∧ ∀ k x, [Value.float .f32 p0, .float .f32 p1, .float .f32 p2][k]? = some x → wr.cell? ((b.add (i * 3)).add k) = some x) ∧ ((b2.add (i * 3)).block < wr.heap.size ∧ ∀ k x, [Value.float .f32 q0, .float .f32 q1, .float .f32 q2][k]? = some x → wr.cell? ((b2.add (i * 3)).add k) = some x)) := ⟨⟨hb1, hc1⟩, ⟨hb2, hc2⟩⟩
        clear hz hy hik ht hP' hQ' HB hb1 hb2 hc1 hc2 hl hl'
        go_wp2_with (first
          | (refine wpList_idxR rfl rfl (by kernel_rfl) (by kernel_rfl) rfl rfl (Int.natCast_nonneg _) hi' ?_; simp only [Int.toNat_natCast])
          | (refine wpList_rowR rfl rfl (n := 3) (by kernel_rfl) rfl rfl D.out.1.2 ?_)
          | (refine wpList_rowR rfl rfl (n := 3) (by kernel_rfl) rfl rfl (cells_later (below_alloc (Below.refl _ _)) D.out.2.1 D.out.2.2) ?_)
          | (go_at_call 19; refine (SamePointI _ _ _ _ _ _ _).mono ?_; rintro e w' ⟨_, rfl, eb, hb⟩; cases eb; have hb' : Aside _ := hb; clear hb))
        all_goals obtain ⟨hik, ht, HB, hn', hl⟩ := B.out
        · simp [bodyPost, results, Try.results42, go_sem]
          have hne : sameT (p0, p1, p2) (q0, q1, q2) = false := by simp_all [sameT]
          refine ⟨_, rfl, ?_, below_step hb'.out (below_alloc (below_alloc HB))⟩
          have := upT_bad C.out.2.2 C.out.1 C.out.2.1 hne
          simp [isB, this]
        · have he : sameT (p0, p1, p2) (q0, q1, q2) = true := by simp_all [sameT]
          go_roundg (gk - 1)
          · refine ⟨i + 1, ?_, by omega, ?_, below_step hb'.out (below_alloc (below_alloc HB))⟩
            · first
                | (congr 1; done)
                | (congr 1; unfold wrap64; omega)
            · rw [upT_step C.out.2.2 C.out.1 C.out.2.1 ht]; exact he
          · omega
      · have hi' : ¬ ((i : Int) < (ts.length : Int)) := by omega
        have hie : i = ts.length := by omega
        clear hP' hQ'
        go_wp2_with fail
        simp [bodyPost, results, Try.results42, go_sem]
        refine ⟨_, rfl, ?_, HB⟩
        rw [hie, hl] at ht; simp [isB, ht]
  · have hl' : ¬ ((ts.length : Int) = (rs.length : Int)) := by omega
    go_enter Try.func42, Try.ntmps42
    go_wp2_with fail
    all_goals simp [bodyPost, results, Try.results42, go_sem]
    all_goals exact ⟨_, rfl, (by rw [sameTs_len hl]; rfl), Below.refl _ _⟩
--## d
theorem take_eqA {α : Type} {zs ys : List α} {i : Nat} {z y : α} (hz : zs[i]? = some z) (hy : ys[i]? = some y) (h : zs.take i = ys.take i) : zs.take (i + 1) = ys.take (i + 1) ↔ z = y := by
  rw [List.take_succ_eq_append_getElem (List.getElem?_eq_some_iff.1 hz).1, List.take_succ_eq_append_getElem (List.getElem?_eq_some_iff.1 hy).1, (List.getElem?_eq_some_iff.1 hz).2, (List.getElem?_eq_some_iff.1 hy).2, h]
  simp
--## d
set_option maxRecDepth 20000 in
set_option maxHeartbeats 1000000 in
theorem eqfF (v u : Value) (ts rs : List (List Int)) (w : World) (hP : Fls w v ts) (hQ : Fls w u rs) (hn : okF ts) :
    Calls Try.prog 43 #[v, u, .func (.func 21) #[] #[]] w (Gives (isB (decide (ts = rs))) w) := by
  have hP' := hP
  have hQ' := hQ
  obtain ⟨a, c, rfl⟩ := hP.slice
  obtain ⟨a2, c2, rfl⟩ := hQ.slice
  have A : Aside (okF ts) := hn
  clear hP hQ hn
  by_cases hl : ts.length = rs.length
  · have hl' : (rs.length : Int) = (ts.length : Int) := by omega
    rw [← hl]
    go_enter Try.func43, Try.ntmps43
    go_wp2_with fail
    go_loopg [17] ts.length (fun k s17 wr => ∃ (i : Nat), s17 = .int .i64 i ∧ i + k = ts.length ∧ ts.take i = rs.take i ∧ Below w.heap.size w wr)
    · exact ⟨0, rfl, by omega, rfl, Below.refl _ _⟩
    · obtain ⟨i, rfl, hik, ht, HB⟩ := hrel
      have B : Aside (i + gk = ts.length ∧ ts.take i = rs.take i ∧ Below w.heap.size w wr ∧ ts.length = rs.length) := ⟨hik, ht, HB, hl⟩
      by_cases hi : i < ts.length
      · obtain ⟨z, hz⟩ : ∃ z, ts[i]? = some z := ⟨ts[i], List.getElem?_eq_getElem hi⟩
        obtain ⟨y, hy⟩ : ∃ y, rs[i]? = some y := ⟨rs[i]'(by omega), List.getElem?_eq_getElem (by omega)⟩
        obtain ⟨b, c1, x1, e1, hb1, hc1, hR⟩ := (hP'.below HB).at hz
        obtain ⟨b2, c3, x2, e2, hb2, hc2, hS⟩ := (hQ'.below HB).at hy
        rw [← hl] at e2
        cases e1; cases e2
        have hi' : (i : Int) < (ts.length : Int) := by omega
        have hi0 : (0 : Int) ≤ (i : Int) := Int.natCast_nonneg _
        have C : Aside (ts[i]? = some z ∧ rs[i]? = some y ∧ z.length ≤ 1048576 ∧ Rls 1 wr x1 (rI z) ∧ Rls 1 wr x2 (rI y)) := ⟨hz, hy, A.out.2 z (List.mem_of_getElem? hz), hR, hS⟩
        obtain ⟨d1, g1, rfl, _⟩ := hR
        obtain ⟨d2, g2, rfl, _⟩ := hS
        clear hz hy hik ht hP' hQ' HB hb1 hb2 hl hl'
        go_wp2_with (first
          | (refine wpList_idxR rfl rfl (by kernel_rfl) (by kernel_rfl) rfl rfl (Int.natCast_nonneg _) hi' ?_; simp only [Int.toNat_natCast, Nat.mul_one])
          | (go_at_call 21; refine (eqI2 _ _ z y _ C.out.2.2.2.1 C.out.2.2.2.2 C.out.2.2.1).mono ?_; rintro e w' ⟨_, rfl, eb, hb⟩; cases eb; have hb' : Aside _ := hb; clear hb))
        all_goals obtain ⟨hik, ht, HB, hl⟩ := B.out
        · simp [bodyPost, results, Try.results43, go_sem]
          have hne : z ≠ y := by simp_all
          refine ⟨_, rfl, ?_, below_step hb'.out HB⟩
          have : ts ≠ rs := fun e => hne (by subst e; exact Option.some.inj (C.out.1.symm.trans C.out.2.1))
          simp [isB, this]
        · have he : z = y := by simp_all
          go_roundg (gk - 1)
          · refine ⟨i + 1, ?_, by omega, (take_eqA C.out.1 C.out.2.1 ht).2 he, below_step hb'.out HB⟩
            first
              | (congr 1; done)
              | (congr 1; have := A.out.1; unfold wrap64; omega)
          · omega
      · have hi' : ¬ ((i : Int) < (ts.length : Int)) := by omega
        have hie : i = ts.length := by omega
        clear hP' hQ'
        go_wp2_with fail
        simp [bodyPost, results, Try.results43, go_sem]
        refine ⟨_, rfl, ?_, HB⟩
        rw [hie, List.take_of_length_le (Nat.le_refl _), List.take_of_length_le (by omega)] at ht
        simp [isB, ht]
  · have hl' : ¬ ((ts.length : Int) = (rs.length : Int)) := by omega
    go_enter Try.func43, Try.ntmps43
    go_wp2_with fail
    all_goals simp [bodyPost, results, Try.results43, go_sem]
    all_goals exact ⟨_, rfl, (by simp [isB]; intro h; exact hl (by rw [h])), Below.refl _ _⟩
--## d
set_option maxRecDepth 20000 in
set_option maxHeartbeats 400000 in
theorem SameSolidI (v u v2 u2 : Value) (ts rs : List V3n) (fs gs : List (List Int)) (w : World) (hP : Rls 3 w v (rT ts)) (hQ : Fls w u fs) (hP2 : Rls 3 w v2 (rT rs)) (hQ2 : Fls w u2 gs) (hn : ts.length ≤ 1048576) (hf : okF fs) :
    Calls Try.prog 31 #[.agg #[v, u], .agg #[v2, u2]] w (Gives (isB (sameTs ts rs && decide (fs = gs))) w) := by
  have A : Aside (Rls 3 w v (rT ts) ∧ Fls w u fs ∧ Rls 3 w v2 (rT rs) ∧ Fls w u2 gs ∧ okF fs ∧ ts.length ≤ 1048576) := ⟨hP, hQ, hP2, hQ2, hf, hn⟩
  obtain ⟨a1, c1, rfl, _⟩ := hP
  obtain ⟨a2, c2, rfl, _⟩ := hP2
  obtain ⟨a3, c3, rfl⟩ := hQ.slice
  obtain ⟨a4, c4, rfl⟩ := hQ2.slice
  clear hQ hQ2 hn hf
  go_enter Try.func31, Try.ntmps31
  go_wp2_with (first
    | (go_at_call 42; refine (eqfT _ _ ts rs _ (A.out.1.below (below_alloc (below_alloc (Below.refl _ _)))) (A.out.2.2.1.below (below_alloc (below_alloc (Below.refl _ _)))) A.out.2.2.2.2.2).mono ?_; rintro e w' ⟨_, rfl, eb, hb⟩; cases eb; obtain ⟨hc1, hf1⟩ := bcell hb; (try simp at hc1 hf1); have HB1 : Aside (Below w.heap.size w w') := (below_step hb (below_alloc (below_alloc (Below.refl _ _)))); clear hb hf1)
    | (go_at_call 43; refine (eqfF _ _ fs gs _ (A.out.2.1.below HB1.out) (A.out.2.2.2.1.below HB1.out) A.out.2.2.2.2.1).mono ?_; rintro e w'' ⟨_, rfl, eb, hb⟩; cases eb; have HB2 : Aside (Below w.heap.size w w'') := below_step hb HB1.out; clear hb))
  all_goals simp [bodyPost, results, Try.results31, go_sem]
  all_goals first
    | exact ⟨_, rfl, by simp_all [isB], HB2.out⟩
    | exact ⟨_, rfl, by simp_all [isB], HB1.out⟩
--## d
end Go.Proofs.Ytpainjecdolgiaa
