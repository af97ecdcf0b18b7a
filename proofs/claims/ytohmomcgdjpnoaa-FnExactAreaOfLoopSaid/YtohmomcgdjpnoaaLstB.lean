/- Contracts: lists of pairs are plain; the area within a loop of places. -/
import Derived.Test.YtohmomcgdjpnoaaLstA
import Derived.Test.YtohmomcgdjpnoaaPtB
import Derived.Test.YtohmomcgdjpnoaaMathD
import Derived.Test.YtohmomcgdjpnoaaPtD
import Derived.Test.YtohmomcgdjpnoaaLawA
import Derived.Deep.LoopGhost
namespace Go.Proofs.Ytohmomcgdjpnoaa
open Go.RowKit Go.Flo Go.Mem
set_option linter.unusedSimpArgs false
set_option linter.unusedVariables false
theorem cell_later {wr W : World} {q : Addr} {v : Value} (hB : Below wr.heap.size wr W) (h : q.block < wr.heap.size ∧ wr.cell? q = some v) : W.cell? q = some v := by
  rw [hB.cell h.1]; exact h.2
/-- the pair at a place -/
theorem Pls.at {w : World} {v : Value} {ps : List (Nat × Nat)} (h : Pls w v ps) {i : Nat} (hi : i < ps.length) : ∃ b c p, v = .slice (some b) ps.length c ∧ ps[i]? = some p ∧ ((b.add (i * 2)).block < w.heap.size ∧ w.cell? (b.add (i * 2)) = some (.float .f32 p.1)) ∧ (((b.add (i * 2)).add 1).block < w.heap.size ∧ w.cell? ((b.add (i * 2)).add 1) = some (.float .f32 p.2)) := by
  obtain ⟨a, c, h1, h2⟩ := h
  obtain ⟨b, rfl, e2, e3, e4⟩ := h2 i ps[i] (List.getElem?_eq_getElem hi)
  exact ⟨b, c, ps[i], h1, List.getElem?_eq_getElem hi, ⟨by rw [add_block]; exact e2, e3⟩, ⟨by rw [add_block, add_block]; exact e2, e4⟩⟩
def stepA (s : V) (a b : Nat × Nat) : V := vop .sub .f32 (vop .add .f32 s (vop .mul .f32 (kcv .f32 a.1) (kcv .f32 b.2))) (vop .mul .f32 (kcv .f32 a.2) (kcv .f32 b.1))
def sumA (ps : List (Nat × Nat)) : Nat → V
  | 0 => kcv .f32 0
  | i + 1 => stepA (sumA ps i) (ps.getD i (0, 0)) (ps.getD ((i + 1) % ps.length) (0, 0))
def areaV (ps : List (Nat × Nat)) : V := vop .mul .f32 (kcv .f32 1056964608) (sumA ps ps.length)
set_option maxRecDepth 20000 in
set_option maxHeartbeats 4000000 in
theorem l04AreaS (v : Value) (ps : List (Nat × Nat)) (w : World) (hP : Pls w v ps) (hn : ps.length ≤ 1048576) :
    Calls Try.prog 75 #[v] w (Gives (isF (areaV ps)) w) := by
  have hP' := hP
  obtain ⟨a, c, rfl, _⟩ := hP
  go_enter Try.func75, Try.ntmps75
  go_wp2_with fail
  go_loopg [3, 4] ps.length (fun k s3 s4 wr => ∃ (i r : Nat), s4 = .int .i64 i ∧ s3 = .float .f32 r ∧ i + k = ps.length ∧ kcv .f32 r = sumA ps i ∧ Below w.heap.size w wr)
  · exact ⟨0, 0, rfl, rfl, by omega, rfl, Below.refl _ _⟩
  · obtain ⟨i, r, rfl, rfl, hik, hr, HB⟩ := hrel
    have B : Aside (i + gk = ps.length ∧ kcv .f32 r = sumA ps i ∧ Below w.heap.size w wr ∧ ps.length ≤ 1048576) := ⟨hik, hr, HB, hn⟩
    by_cases hi : i < ps.length
    · obtain ⟨b, c1, p, e1, hp, hc0, hc1⟩ := (hP'.below HB).at hi
      obtain ⟨b2, c2, q, e2, hq, hd0, hd1⟩ := (hP'.below HB).at (Nat.mod_lt (i + 1) (by omega : 0 < ps.length))
      cases e1; cases e2
      have hi' : (i : Int) < (ps.length : Int) := by omega
      have hj0 : 0 ≤ ((i : Int) + 1) % (ps.length : Int) := Int.emod_nonneg _ (by omega)
      have hj1 : ((i : Int) + 1) % (ps.length : Int) < (ps.length : Int) := Int.emod_lt_of_pos _ (by omega)
      have hj2 : (((i : Int) + 1) % (ps.length : Int)).toNat = (i + 1) % ps.length := by
        rw [show ((i : Int) + 1) = ((i + 1 : Nat) : Int) by omega, ← Int.natCast_emod, Int.toNat_natCast]
      have C : Aside ((((b.add (i * 2)).block < wr.heap.size ∧ wr.cell? (b.add (i * 2)) = some (.float .f32 p.1)) ∧ (((b.add (i * 2)).add 1).block < wr.heap.size ∧ wr.cell? ((b.add (i * 2)).add 1) = some (.float .f32 p.2))) ∧ ps[i]? = some p) := ⟨⟨hc0, hc1⟩, hp⟩
      have D : Aside ((((b.add ((i + 1) % ps.length * 2)).block < wr.heap.size ∧ wr.cell? (b.add ((i + 1) % ps.length * 2)) = some (.float .f32 q.1)) ∧ (((b.add ((i + 1) % ps.length * 2)).add 1).block < wr.heap.size ∧ wr.cell? ((b.add ((i + 1) % ps.length * 2)).add 1) = some (.float .f32 q.2))) ∧ ps[(i + 1) % ps.length]? = some q) := ⟨⟨hd0, hd1⟩, hq⟩
      clear hc0 hc1 hd0 hd1 hp hq hik hr hP' HB
      go_wp2_with (first
        | (refine wpList_idx rfl rfl (by kernel_rfl) (by kernel_rfl) rfl rfl (Int.natCast_nonneg _) hi' ?_; simp only [Int.toNat_natCast])
        | (refine wpList_idx rfl rfl (by kernel_rfl) (by kernel_rfl) rfl rfl hj0 hj1 ?_; simp only [hj2])
        | (refine wpList_pair rfl rfl (by kernel_rfl) rfl (cell_later (Below.refl _ _) C.out.1.1) (cell_later (Below.refl _ _) C.out.1.2) ?_)
        | (refine wpList_pair rfl rfl (by kernel_rfl) rfl (cell_later (below_alloc (Below.refl _ _)) D.out.1.1) (cell_later (below_alloc (Below.refl _ _)) D.out.1.2) ?_)
        | (refine wpList_arith rfl _ _ _ _ _ rfl (by decide) _ _ _ rfl rfl ?_; intro r1 n1 hr1))
      go_roundg (gk - 1)
      · refine ⟨i + 1, _, ?_, rfl, by have := B.out.1; omega, ?_, ?_⟩
        · first
            | (congr 1; done)
            | (congr 1; have := B.out.2.2.2; unfold wrap64; omega)
        · have hg1 : ps.getD i (0, 0) = p := by rw [List.getD_eq_getElem?_getD, C.out.2]; rfl
          have hg2 : ps.getD ((i + 1) % ps.length) (0, 0) = q := by rw [List.getD_eq_getElem?_getD, D.out.2]; rfl
          simp only [Hid] at *
          simp only [sumA, stepA, hg1, hg2, ← B.out.2.1, *]
        · exact below_drewN (below_alloc (below_alloc B.out.2.2.1)) _
      · have := B.out.1; omega
    · have hi' : ¬ ((i : Int) < (ps.length : Int)) := by omega
      have hie : i = ps.length := by omega
      subst hie
      clear hP'
      go_wp2_with (first | (refine wpList_arith rfl _ _ _ _ _ rfl (by decide) _ _ _ rfl rfl ?_; intro r1 n1 hr1))
      simp [bodyPost, results, Try.results75, go_sem]
      refine ⟨_, rfl, ?_, ?_⟩
      · simp only [Hid] at *
        unfold areaV; rw [← B.out.2.1, ← hr1]; exact ⟨_, rfl, rfl⟩
      · exact below_drewN HB _
def okAt (p : Nat × Nat) : Bool := plainV (kcv .f32 p.1) && plainV (kcv .f32 p.2)
theorem all_take {ps : List (Nat × Nat)} {i : Nat} {p : Nat × Nat} (hp : ps[i]? = some p) (h : (ps.take i).all okAt = true) : (ps.take (i + 1)).all okAt = okAt p := by
  have hi : i < ps.length := (List.getElem?_eq_some_iff.mp hp).1
  have he : ps[i] = p := (List.getElem?_eq_some_iff.mp hp).2
  rw [List.take_succ_eq_append_getElem hi, List.all_append, h, he]; simp
theorem all_bad {ps : List (Nat × Nat)} {i : Nat} {p : Nat × Nat} (hp : ps[i]? = some p) (h : okAt p = false) : ps.all okAt = false := by
  rw [List.all_eq_false]
  exact ⟨p, List.mem_of_getElem? hp, by simp [h]⟩
set_option maxHeartbeats 400000 in
theorem IsPlainS' (x : Nat) (w : World) :
    Calls Try.prog 107 #[.float .f32 x] w (Same (isB (plainV (kcv .f32 x))) w) := by
  go_enter Try.func107, Try.ntmps107
  go_wp2_with (first | (go_at_call 113; refine (l01Plain_any _ _).mono ?_; rintro e w' ⟨_, rfl, rfl, rfl⟩))
  simp [bodyPost, results, Try.results107, go_sem]
  exact ⟨_, rfl, rfl, rfl⟩
set_option maxHeartbeats 400000 in
theorem isPlainI (x0 x1 : Nat) (w : World) :
    Calls Try.prog 71 #[.agg #[.float .f32 x0, .float .f32 x1]] w (Gives (isB (okAt (x0, x1))) w) := by
  go_enter Try.func71, Try.ntmps71
  go_wp2_with (first | (go_at_call 93; refine (IsPlainI _ _).mono ?_; rintro e w' ⟨_, rfl, rfl, rfl⟩))
  all_goals
    simp [bodyPost, results, Try.results71, go_sem]
    refine ⟨_, rfl, ?_, ?_⟩
    · simp_all [isB, okAt]
    · repeat' (first | (with_reducible exact Below.refl _ _) | (with_reducible refine below_alloc ?_) | (with_reducible refine below_set ?_ ?_))
set_option maxRecDepth 20000 in
set_option maxHeartbeats 4000000 in
theorem plainPlacesI (v : Value) (ps : List (Nat × Nat)) (w : World) (hP : Pls w v ps) (hn : ps.length ≤ 1048576) :
    Calls Try.prog 76 #[v] w (Gives (isB (ps.all okAt)) w) := by
  have hP' := hP
  obtain ⟨a, c, rfl, _⟩ := hP
  go_enter Try.func76, Try.ntmps76
  go_wp2_with fail
  go_loopg [7] ps.length (fun k s7 wr => ∃ (i : Nat), s7 = .int .i64 i ∧ i + k = ps.length ∧ (ps.take i).all okAt = true ∧ Below w.heap.size w wr)
  · exact ⟨0, rfl, by omega, rfl, Below.refl _ _⟩
  · obtain ⟨i, rfl, hik, hr, HB⟩ := hrel
    have B : Aside (i + gk = ps.length ∧ (ps.take i).all okAt = true ∧ Below w.heap.size w wr ∧ ps.length ≤ 1048576) := ⟨hik, hr, HB, hn⟩
    by_cases hi : i < ps.length
    · obtain ⟨b, c1, p, e1, hp, hc0, hc1⟩ := (hP'.below HB).at hi
      cases e1
      have hi' : (i : Int) < (ps.length : Int) := by omega
      have C : Aside ((((b.add (i * 2)).block < wr.heap.size ∧ wr.cell? (b.add (i * 2)) = some (.float .f32 p.1)) ∧ (((b.add (i * 2)).add 1).block < wr.heap.size ∧ wr.cell? ((b.add (i * 2)).add 1) = some (.float .f32 p.2))) ∧ ps[i]? = some p) := ⟨⟨hc0, hc1⟩, hp⟩
      clear hc0 hc1 hp hik hr hP' HB
      go_wp2_with (first
        | (refine wpList_idx rfl rfl (by kernel_rfl) (by kernel_rfl) rfl rfl (Int.natCast_nonneg _) hi' ?_; simp only [Int.toNat_natCast])
        | (refine wpList_pair rfl rfl (by kernel_rfl) rfl (cell_later (Below.refl _ _) C.out.1.1) (cell_later (Below.refl _ _) C.out.1.2) ?_)
        | (go_at_call 71; refine (isPlainI _ _ _).mono ?_; rintro e w' ⟨_, rfl, eb, hb⟩; have eb' : Aside _ := eb; cases eb; have hb' : Aside _ := hb; clear hb))
      all_goals
        obtain ⟨hik, hr, HB, hn'⟩ := B.out
        have hC := C.out.2
      · simp [bodyPost, results, Try.results76, go_sem]
        have hbad : okAt (p.1, p.2) = false := by simp_all
        refine ⟨_, rfl, ?_, below_step hb'.out (below_alloc HB)⟩
        rw [all_bad hC hbad]; rfl
      · have hgood : okAt (p.1, p.2) = true := by simp_all
        go_roundg (gk - 1)
        · refine ⟨i + 1, ?_, by omega, ?_, below_step hb'.out (below_alloc HB)⟩
          · first
              | (congr 1; done)
              | (congr 1; unfold wrap64; omega)
          · rw [all_take hC hr]; exact hgood
        · omega
    · have hi' : ¬ ((i : Int) < (ps.length : Int)) := by omega
      have hie : i = ps.length := by omega
      subst hie
      clear hP'
      go_wp2_with fail
      simp [bodyPost, results, Try.results76, go_sem]
      refine ⟨_, rfl, ?_, HB⟩
      rw [List.take_of_length_le (Nat.le_refl _)] at hr
      rw [hr]; rfl
set_option maxRecDepth 20000 in
set_option maxHeartbeats 4000000 in
theorem l04PlacesS (v : Value) (ps : List (Nat × Nat)) (w : World) (hP : Pls w v ps) (hn : ps.length ≤ 1048576) :
    Calls Try.prog 69 #[v] w (Gives (isB (ps.all okAt && decide (ps.length ≤ 64))) w) := by
  have hP' := hP
  obtain ⟨a, c, rfl, _⟩ := hP
  go_enter Try.func69, Try.ntmps69
  go_wp2_with fail
  go_loopg [3] ps.length (fun k s3 wr => ∃ (i : Nat), s3 = .int .i64 i ∧ i + k = ps.length ∧ (ps.take i).all okAt = true ∧ Below w.heap.size w wr)
  · exact ⟨0, rfl, by omega, rfl, Below.refl _ _⟩
  · obtain ⟨i, rfl, hik, hr, HB⟩ := hrel
    have B : Aside (i + gk = ps.length ∧ (ps.take i).all okAt = true ∧ Below w.heap.size w wr ∧ ps.length ≤ 1048576) := ⟨hik, hr, HB, hn⟩
    by_cases hi : i < ps.length
    · obtain ⟨b, c1, p, e1, hp, hc0, hc1⟩ := (hP'.below HB).at hi
      cases e1
      have hi' : (i : Int) < (ps.length : Int) := by omega
      have C : Aside ((((b.add (i * 2)).block < wr.heap.size ∧ wr.cell? (b.add (i * 2)) = some (.float .f32 p.1)) ∧ (((b.add (i * 2)).add 1).block < wr.heap.size ∧ wr.cell? ((b.add (i * 2)).add 1) = some (.float .f32 p.2))) ∧ ps[i]? = some p) := ⟨⟨hc0, hc1⟩, hp⟩
      have hx0 : wr.cell? (b.add (i * 2)) = some (.float .f32 p.1) := hc0.2
      have hx1 : wr.cell? ⟨(b.add (i * 2)).block, (b.add (i * 2)).off + 1, none⟩ = some (.float .f32 p.2) := hc1.2
      clear hc0 hc1 hp hik hr hP' HB
      go_wp2_with (first
        | (refine wpList_idx rfl rfl (by kernel_rfl) (by kernel_rfl) rfl rfl (Int.natCast_nonneg _) hi' ?_; simp only [Int.toNat_natCast])
        | (go_at_call 107; refine (IsPlainS' _ _).mono ?_; rintro e w' ⟨_, rfl, rfl, rfl⟩))
      all_goals
        obtain ⟨hik, hr, HB, hn'⟩ := B.out
        have hC := C.out.2
      · simp [bodyPost, results, Try.results69, go_sem]
        have hbad : okAt p = false := by simp_all [okAt]
        refine ⟨_, rfl, ?_, HB⟩
        rw [all_bad hC hbad]; rfl
      · have hgood : okAt p = true := by simp_all [okAt]
        go_roundg (gk - 1)
        · refine ⟨i + 1, ?_, by omega, ?_, HB⟩
          · first
              | (congr 1; done)
              | (congr 1; unfold wrap64; omega)
          · rw [all_take hC hr]; exact hgood
        · omega
      · simp [bodyPost, results, Try.results69, go_sem]
        have hbad : okAt p = false := by simp_all [okAt]
        refine ⟨_, rfl, ?_, HB⟩
        rw [all_bad hC hbad]; rfl
    · have hi' : ¬ ((i : Int) < (ps.length : Int)) := by omega
      have hie : i = ps.length := by omega
      rw [hie, List.take_of_length_le (Nat.le_refl _)] at hr
      clear hP'
      go_wp2_with fail
      simp [bodyPost, results, Try.results69, go_sem]
      refine ⟨_, rfl, ?_, HB⟩
      simp [isB, hr]; try omega
set_option maxRecDepth 20000 in
set_option maxHeartbeats 4000000 in
theorem areaWithinI (v : Value) (ps : List (Nat × Nat)) (w : World) (hP : Pls w v ps) (hn : ps.length ≤ 1048576) :
    Calls Try.prog 77 #[v] w (Gives (isF (areaV ps)) w) := by
  have hP' := hP
  obtain ⟨a, c, rfl, _⟩ := hP
  go_enter Try.func77, Try.ntmps77
  go_wp2_with fail
  go_loopg [3, 9] ps.length (fun k s3 s9 wr => ∃ (i r : Nat), s9 = .int .i64 i ∧ s3 = .float .f32 r ∧ i + k = ps.length ∧ kcv .f32 r = sumA ps i ∧ Below w.heap.size w wr)
  · exact ⟨0, 0, rfl, rfl, by omega, rfl, Below.refl _ _⟩
  · obtain ⟨i, r, rfl, rfl, hik, hr, HB⟩ := hrel
    have B : Aside (i + gk = ps.length ∧ kcv .f32 r = sumA ps i ∧ Below w.heap.size w wr ∧ ps.length ≤ 1048576) := ⟨hik, hr, HB, hn⟩
    by_cases hi : i < ps.length
    · obtain ⟨b, c1, p, e1, hp, hc0, hc1⟩ := (hP'.below HB).at hi
      obtain ⟨b2, c2, q, e2, hq, hd0, hd1⟩ := (hP'.below HB).at (Nat.mod_lt (i + 1) (by omega : 0 < ps.length))
      cases e1; cases e2
      have hi' : (i : Int) < (ps.length : Int) := by omega
      have hj0 : 0 ≤ ((i : Int) + 1) % (ps.length : Int) := Int.emod_nonneg _ (by omega)
      have hj1 : ((i : Int) + 1) % (ps.length : Int) < (ps.length : Int) := Int.emod_lt_of_pos _ (by omega)
      have hj2 : (((i : Int) + 1) % (ps.length : Int)).toNat = (i + 1) % ps.length := by
        rw [show ((i : Int) + 1) = ((i + 1 : Nat) : Int) by omega, ← Int.natCast_emod, Int.toNat_natCast]
      have C : Aside ((((b.add (i * 2)).block < wr.heap.size ∧ wr.cell? (b.add (i * 2)) = some (.float .f32 p.1)) ∧ (((b.add (i * 2)).add 1).block < wr.heap.size ∧ wr.cell? ((b.add (i * 2)).add 1) = some (.float .f32 p.2))) ∧ ps[i]? = some p) := ⟨⟨hc0, hc1⟩, hp⟩
      have D : Aside ((((b.add ((i + 1) % ps.length * 2)).block < wr.heap.size ∧ wr.cell? (b.add ((i + 1) % ps.length * 2)) = some (.float .f32 q.1)) ∧ (((b.add ((i + 1) % ps.length * 2)).add 1).block < wr.heap.size ∧ wr.cell? ((b.add ((i + 1) % ps.length * 2)).add 1) = some (.float .f32 q.2))) ∧ ps[(i + 1) % ps.length]? = some q) := ⟨⟨hd0, hd1⟩, hq⟩
      clear hc0 hc1 hd0 hd1 hp hq hik hr hP' HB
      go_wp2_with (first
        | (refine wpList_idx rfl rfl (by kernel_rfl) (by kernel_rfl) rfl rfl (Int.natCast_nonneg _) hi' ?_; simp only [Int.toNat_natCast])
        | (refine wpList_idx rfl rfl (by kernel_rfl) (by kernel_rfl) rfl rfl hj0 hj1 ?_; simp only [hj2])
        | (refine wpList_pair rfl rfl (by kernel_rfl) rfl (cell_later (Below.refl _ _) C.out.1.1) (cell_later (Below.refl _ _) C.out.1.2) ?_)
        | (refine wpList_pair rfl rfl (by kernel_rfl) rfl (cell_later (below_alloc (Below.refl _ _)) D.out.1.1) (cell_later (below_alloc (Below.refl _ _)) D.out.1.2) ?_)
        | (refine wpList_arith rfl _ _ _ _ _ rfl (by decide) _ _ _ rfl rfl ?_; intro r1 n1 hr1))
      go_roundg (gk - 1)
      · refine ⟨i + 1, _, ?_, rfl, by have := B.out.1; omega, ?_, ?_⟩
        · first
            | (congr 1; done)
            | (congr 1; have := B.out.2.2.2; unfold wrap64; omega)
        · have hg1 : ps.getD i (0, 0) = p := by rw [List.getD_eq_getElem?_getD, C.out.2]; rfl
          have hg2 : ps.getD ((i + 1) % ps.length) (0, 0) = q := by rw [List.getD_eq_getElem?_getD, D.out.2]; rfl
          simp only [Hid] at *
          simp only [sumA, stepA, hg1, hg2, ← B.out.2.1, *]
        · exact below_drewN (below_alloc (below_alloc B.out.2.2.1)) _
      · have := B.out.1; omega
    · have hi' : ¬ ((i : Int) < (ps.length : Int)) := by omega
      have hie : i = ps.length := by omega
      subst hie
      clear hP'
      go_wp2_with (first | (refine wpList_arith rfl _ _ _ _ _ rfl (by decide) _ _ _ rfl rfl ?_; intro r1 n1 hr1))
      simp [bodyPost, results, Try.results77, go_sem]
      refine ⟨_, rfl, ?_, ?_⟩
      · simp only [Hid] at *
        unfold areaV; rw [← B.out.2.1, ← hr1]; exact ⟨_, rfl, rfl⟩
      · exact below_drewN HB _
/-- a number whose size is at most that of the rung R -/
def bdr (R : Nat) (x : V) : Prop := ∃ b, x = some b ∧ rung Ieee.single b ≤ R
theorem sum_rd {Ra Rb R a b : Nat} {s t : Bool} {m n : Nat} {i j : Int} (hR : val Ieee.single.binade Ra + val Ieee.single.binade Rb ≤ val Ieee.single.binade R) (ha : rung Ieee.single a ≤ Ra) (hb : rung Ieee.single b ≤ Rb)
    (pa : Ieee.single.leastPlace ≤ i) (pb : Ieee.single.leastPlace ≤ j) (va : m * 2 ^ (i - Ieee.single.leastPlace).toNat = val Ieee.single.binade (rung Ieee.single a)) (vb : n * 2 ^ (j - Ieee.single.leastPlace).toNat = val Ieee.single.binade (rung Ieee.single b)) :
    ∃ r, (Ieee.Datum.sum (.number s m i) (.number t n j)).map Ieee.single.write = some r ∧ rung Ieee.single r ≤ R := by
  have wa : val Ieee.single.binade (rung Ieee.single a) ≤ val Ieee.single.binade Ra := (val_le (binade_pos _)).2 ha
  have wb : val Ieee.single.binade (rung Ieee.single b) ≤ val Ieee.single.binade Rb := (val_le (binade_pos _)).2 hb
  rw [← va] at wa; rw [← vb] at wb
  simp only [Ieee.Datum.sum, Option.map_some]
  refine ⟨_, rfl, ?_⟩
  rw [(rung_write_number _ _ _ _).1]
  refine rung_le Ieee.single ?_
  have hl : Ieee.single.leastPlace = -149 := by decide
  rw [hl] at wa wb pa pb ⊢
  have e1 : (-149 - min i j).toNat = 0 := by clear wa wb va vb; omega
  rw [e1, Nat.pow_zero, Nat.mul_one]
  have h3 : (Ieee.signed s m (i - min i j).toNat + Ieee.signed t n (j - min i j).toNat).natAbs ≤ m * 2 ^ (i - min i j).toNat + n * 2 ^ (j - min i j).toNat := by
    rw [← natAbs_signed s m, ← natAbs_signed t n]; exact Int.natAbs_add_le _ _
  refine Nat.le_trans (Nat.mul_le_mul_right _ h3) ?_
  rw [Nat.add_mul, Nat.mul_assoc, ← Nat.pow_add, Nat.mul_assoc, ← Nat.pow_add]
  have e2 : (i - min i j).toNat + (min i j - -149).toNat = (i - -149).toNat := by clear wa wb va vb h3; omega
  have e3 : (j - min i j).toNat + (min i j - -149).toNat = (j - -149).toNat := by clear wa wb va vb h3; omega
  rw [e2, e3]
  exact Nat.le_trans (Nat.add_le_add wa wb) hR
theorem bdr_add {Ra Rb R : Nat} {x y : V} (hR : val Ieee.single.binade Ra + val Ieee.single.binade Rb ≤ val Ieee.single.binade R) (l : Ra < Ieee.single.infRung ∧ Rb < Ieee.single.infRung) (h1 : bdr Ra x) (h2 : bdr Rb y) : bdr R (add x y) := by
  obtain ⟨a, rfl, ha⟩ := h1
  obtain ⟨b, rfl, hb⟩ := h2
  obtain ⟨m, i, ea, pa, va⟩ := read_number Ieee.single (Nat.lt_of_le_of_lt ha l.1)
  obtain ⟨n, j, eb, pb, vb⟩ := read_number Ieee.single (Nat.lt_of_le_of_lt hb l.2)
  obtain ⟨r, hr, hb⟩ := sum_rd (s := neg Ieee.single a) (t := neg Ieee.single b) hR ha hb pa pb va vb
  refine ⟨r, ?_, hb⟩
  show Ieee.single.add a b = _
  unfold Ieee.Format.add
  rw [ea, eb]; exact hr
theorem bdr_sub {Ra Rb R : Nat} {x y : V} (hR : val Ieee.single.binade Ra + val Ieee.single.binade Rb ≤ val Ieee.single.binade R) (l : Ra < Ieee.single.infRung ∧ Rb < Ieee.single.infRung) (h1 : bdr Ra x) (h2 : bdr Rb y) : bdr R (sub x y) := by
  obtain ⟨a, rfl, ha⟩ := h1
  obtain ⟨b, rfl, hb⟩ := h2
  obtain ⟨m, i, ea, pa, va⟩ := read_number Ieee.single (Nat.lt_of_le_of_lt ha l.1)
  obtain ⟨n, j, eb, pb, vb⟩ := read_number Ieee.single (Nat.lt_of_le_of_lt hb l.2)
  obtain ⟨r, hr, hb⟩ := sum_rd (s := neg Ieee.single a) (t := !(neg Ieee.single b)) hR ha hb pa pb va vb
  refine ⟨r, ?_, hb⟩
  show Ieee.single.sub a b = _
  unfold Ieee.Format.sub
  rw [ea, eb]; exact hr
theorem bin_eq : Ieee.single.binade = 8388608 := by decide
theorem val_step (i : Nat) (hi : i ≤ 512) : val Ieee.single.binade (177 * Ieee.single.binade + i * 8192) + val Ieee.single.binade (167 * Ieee.single.binade) ≤ val Ieee.single.binade (177 * Ieee.single.binade + (i + 1) * 8192) := by
  have h : ∀ j, j ≤ 513 → val Ieee.single.binade (177 * Ieee.single.binade + j * 8192) = (8388608 + j * 8192) * 2 ^ 176 := by
    intro j hj
    rw [bin_eq, show 177 * 8388608 + j * 8192 = 176 * 8388608 + (8388608 + j * 8192) by omega]
    exact val_at (by decide) (by omega) (.inr (by omega))
  rw [h i (by omega), h (i + 1) (by omega), bin_eq, show 167 * 8388608 = 166 * 8388608 + 8388608 by decide, val_at (b := 8388608) (d := 166) (k := 8388608) (by decide) (by decide) (.inr (by decide)), show (i + 1) * 8192 = i * 8192 + 8192 by omega, ← Nat.add_assoc, Nat.add_mul (8388608 + i * 8192) 8192, show (8388608 : Nat) * 2 ^ 166 = 8192 * 2 ^ 176 by decide]
  exact Nat.le_refl _
theorem bdr_of {e : Nat} {x : V} (h : bd e x) : bdr (e * Ieee.single.binade) x := h
theorem rungs_fin {i : Nat} (hi : i ≤ 512) : 177 * Ieee.single.binade + i * 8192 < Ieee.single.infRung ∧ 167 * Ieee.single.binade < Ieee.single.infRung := by
  rw [bin_eq, inf32]; omega
theorem sumA_bd {ps : List (Nat × Nat)} (h : ps.all okAt = true) (hn : ps.length ≤ 64) : ∀ i, i ≤ ps.length → bdr (177 * Ieee.single.binade + (2 * i) * 8192) (sumA ps i)
  | 0, _ => ⟨0, rfl, by rw [bin_eq]; decide⟩
  | i + 1, hi => by
    have ih := sumA_bd h hn i (by omega)
    have hp : ∀ j, bd 147 (kcv .f32 (ps.getD j (0, 0)).1) ∧ bd 147 (kcv .f32 (ps.getD j (0, 0)).2) := by
      intro j
      by_cases hj : j < ps.length
      · have := List.all_eq_true.1 h ps[j] (List.getElem_mem hj)
        rw [List.getD_eq_getElem?_getD, List.getElem?_eq_getElem hj]
        simp only [okAt, Bool.and_eq_true] at this
        exact ⟨bd_plain this.1, bd_plain this.2⟩
      · rw [List.getD_eq_getElem?_getD, List.getElem?_eq_none (by omega)]
        exact ⟨⟨0, rfl, by decide⟩, ⟨0, rfl, by decide⟩⟩
    have m1 := bd_mul (e := 167) (hp i).1 (hp ((i + 1) % ps.length)).2 (by omega) (by omega) (by omega) (by omega)
    have m2 := bd_mul (e := 167) (hp i).2 (hp ((i + 1) % ps.length)).1 (by omega) (by omega) (by omega) (by omega)
    have s1 := bdr_add (val_step (2 * i) (by omega)) (rungs_fin (by omega)) ih (bdr_of m1)
    have s2 := bdr_sub (val_step (2 * i + 1) (by omega)) (rungs_fin (by omega)) s1 (bdr_of m2)
    exact s2
theorem areaV_fin {ps : List (Nat × Nat)} (h : ps.all okAt = true) (hn : ps.length ≤ 64) : finV (areaV ps) = true := by
  obtain ⟨b, e, hb⟩ := sumA_bd h hn ps.length (Nat.le_refl _)
  have h1 : bd 178 (sumA ps ps.length) := ⟨b, e, by rw [bin_eq] at hb ⊢; omega⟩
  have h2 : bd 126 (kcv .f32 1056964608) := ⟨1056964608, by decide, by decide⟩
  obtain ⟨r, e1, hr⟩ := bd_mul (e := 177) h2 h1 (by omega) (by omega) (by omega) (by omega)
  have hf := fin_of_bd (by omega) hr
  have : areaV ps = some r := e1
  rw [this, ← some_of (Nat.le_of_lt hf)]
  exact fin_iff.2 hf
def isAr (ps : List (Nat × Nat)) (v : Value) : Prop := ∃ r c, v = .tuple #[.float .f32 r, .int .i64 c] ∧ ((ps.all okAt && decide (ps.length ≤ 64)) = true ∧ kcv .f32 r = areaV ps ∧ c = 0 ∨ (ps.all okAt && decide (ps.length ≤ 64)) = false ∧ r = 0 ∧ c = 2)
set_option maxHeartbeats 1000000 in
theorem l03Number_fin (x : Nat) (hx : finV (kcv .f32 x) = true) (w : World) :
    Calls Try.prog 74 #[.float .f32 x] w (Gives (fun v => v = .tuple #[.float .f32 x, .int .i64 0]) w) := by
  go_enter Try.func74, Try.ntmps74
  go_wp2_with (first | (go_at_call 70; refine (l01Finite_any _ _).mono ?_; rintro e w' ⟨_, n, rfl, eb, rfl⟩; rw [hx] at eb; cases eb))
  all_goals
    simp [bodyPost, results, Try.results74, go_sem]
  exact ⟨_, rfl, rfl, below_drewN (Below.refl _ _) _⟩
set_option maxHeartbeats 1000000 in
theorem AreaOfLoopS (v : Value) (ps : List (Nat × Nat)) (w : World) (hP : Pls w v ps) (hn : ps.length ≤ 1048576) :
    Calls Try.prog 33 #[v] w (Gives (isAr ps) w) := by
  cases hg : ps.all okAt && decide (ps.length ≤ 64)
  · go_enter Try.func33, Try.ntmps33
    go_wp2_with (first | (go_at_call 69; refine (l04PlacesS _ ps _ hP hn).mono ?_; rintro e w' ⟨_, rfl, eb, hb⟩; rw [hg] at eb; cases eb))
    all_goals
      simp [bodyPost, results, Try.results33, go_sem]
    exact ⟨_, rfl, ⟨_, _, rfl, .inr ⟨hg, rfl, rfl⟩⟩, hb⟩
  · have hg' : ps.all okAt = true ∧ ps.length ≤ 64 := by simpa using hg
    have hf := areaV_fin hg'.1 hg'.2
    go_enter Try.func33, Try.ntmps33
    go_wp2_with (first
      | (go_at_call 69; refine (l04PlacesS _ ps _ hP hn).mono ?_; rintro e w' ⟨_, rfl, eb, hb⟩; rw [hg] at eb; cases eb; have hP2 := hP.below hb)
      | (go_at_call 75; refine (l04AreaS _ ps _ hP2 hn).mono ?_; rintro e w'' ⟨_, rfl, ⟨r, rfl, hr⟩, hb2⟩)
      | (go_at_call 74; refine (l03Number_fin _ (by rw [hr]; exact hf) _).mono ?_; rintro e w3 ⟨_, rfl, rfl, hb3⟩))
    all_goals
      simp [bodyPost, results, Try.results33, go_sem]
    exact ⟨_, rfl, ⟨_, _, rfl, .inl ⟨hg, hr, rfl⟩⟩, below_step hb3 (below_step hb2 hb)⟩
set_option maxHeartbeats 1000000 in
theorem AreaOfLoopI (v : Value) (ps : List (Nat × Nat)) (w : World) (hP : Pls w v ps) (hn : ps.length ≤ 1048576) :
    Calls Try.prog 35 #[v] w (Gives (isAr ps) w) := by
  have hP' := hP
  obtain ⟨a, c, rfl, _⟩ := hP
  by_cases hl : ps.length ≤ 64
  · have hl' : ¬ ((64 : Int) < (ps.length : Int)) := by omega
    cases hg : ps.all okAt
    · go_enter Try.func35, Try.ntmps35
      go_wp2_with (first | (go_at_call 76; refine (plainPlacesI _ ps _ hP' hn).mono ?_; rintro e w' ⟨_, rfl, eb, hb⟩; rw [hg] at eb; cases eb))
      all_goals
        simp [bodyPost, results, Try.results35, go_sem]
      exact ⟨_, rfl, ⟨_, _, rfl, .inr ⟨by rw [hg]; rfl, rfl, rfl⟩⟩, hb⟩
    · go_enter Try.func35, Try.ntmps35
      go_wp2_with (first
        | (go_at_call 76; refine (plainPlacesI _ ps _ hP' hn).mono ?_; rintro e w' ⟨_, rfl, eb, hb⟩; rw [hg] at eb; cases eb; have hP2 := hP'.below hb)
        | (go_at_call 77; refine (areaWithinI _ ps _ hP2 hn).mono ?_; rintro e w'' ⟨_, rfl, ⟨r, rfl, hr⟩, hb2⟩))
      all_goals
        simp [bodyPost, results, Try.results35, go_sem]
      exact ⟨_, rfl, ⟨_, _, rfl, .inl ⟨by rw [hg]; simp; exact hl, hr, rfl⟩⟩, below_step hb2 hb⟩
  · have hl' : (64 : Int) < (ps.length : Int) := by omega
    go_enter Try.func35, Try.ntmps35
    go_wp2_with fail
    all_goals
      simp [bodyPost, results, Try.results35, go_sem]
    exact ⟨_, rfl, ⟨_, _, rfl, .inr ⟨by simp [hl], rfl, rfl⟩⟩, Below.refl _ _⟩
end Go.Proofs.Ytohmomcgdjpnoaa
