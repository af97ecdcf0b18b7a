/- Contracts: strokes are drawn on sheets (both sides). -/
import Derived.Test.YtpaangcbcknhlaaShtA
import Derived.Test.YtpaangcbcknhlaaMrkM
import Derived.Test.YtpaangcbcknhlaaWayA
namespace Go.Proofs.Ytpaangcbcknhlaa
--## d
open Go.RowKit Go.Mem
set_option linter.unusedSimpArgs false
set_option linter.unusedVariables false
set_option maxRecDepth 20000
--## d
def inkN (put : List Int → Bool → Int → Int → List Int) (d : Int) (ink : Bool) (zs : List Int) (ms : List (Int × Int)) : Nat → List Int
  | 0 => zs
  | k + 1 => if drawnF d k then put (inkN put d ink zs ms k) ink (ms.getD k (0, 0)).1 (ms.getD k (0, 0)).2 else inkN put d ink zs ms k
--## d
def msK (s : S5) : List (Int × Int) := marksN s.1 s.2.1 s.2.2.1 s.2.2.2.1 (distF s.1 s.2.1 s.2.2.1 s.2.2.2.1)
--## d
def strokeF (put : List Int → Bool → Int → Int → List Int) (ink : Bool) (zs : List Int) (s : S5) : List Int := inkN put s.2.2.2.2 ink zs (msK s) (msK s).length
--## d
theorem inkN_len {put : List Int → Bool → Int → Int → List Int} (hp : ∀ zs ink x y, (put zs ink x y).length = zs.length) (d : Int) (ink : Bool) (zs : List Int) (ms : List (Int × Int)) : ∀ k, (inkN put d ink zs ms k).length = zs.length
  | 0 => rfl
  | k + 1 => by
    unfold inkN
    split
    · rw [hp, inkN_len hp d ink zs ms k]
    · exact inkN_len hp d ink zs ms k
--## d
theorem strokeF_len {put : List Int → Bool → Int → Int → List Int} (hp : ∀ zs ink x y, (put zs ink x y).length = zs.length) (ink : Bool) (zs : List Int) (s : S5) : (strokeF put ink zs s).length = zs.length := inkN_len hp _ _ _ _ _
--## d
theorem Mem.swap2 {w W : World} {r l : Blocks} {x y : Nat × List Value} (h : Mem w W r (x :: y :: l)) : Mem w W r (y :: x :: l) := by
  refine ⟨h.below, h.old, fun z hz => h.new z (by simp at hz ⊢; rcases hz with h | h | h <;> simp [h]), ?_⟩
  have := h.apart
  simp only [List.map_cons, List.nodup_cons, List.mem_cons, not_or] at this ⊢
  exact ⟨⟨fun e => this.1.1 e.symm, this.2.1⟩, this.1.2, this.2.2⟩
--## d
theorem okM_bd6 {x y : Int} (h : okM x y = true) : (-500 ≤ x ∧ x ≤ 500) ∧ (-500 ≤ y ∧ y ≤ 500) := by
  simp [okM, inB] at h
  omega
--## d
theorem msK_len {s : S5} (h : okK s = true) : (msK s).length ≤ 1001 := by
  unfold okK okS at h
  simp only [Bool.and_eq_true] at h
  have h1 := okM_bd6 h.1.1
  have h2 := okM_bd6 h.1.2
  have := dist_bd h1.1 h1.2 h2.1 h2.2
  unfold msK
  rw [marksN_len]
  omega
--## d
set_option maxHeartbeats 8000000 in
theorem l06StrokeG (g : Nat) (zs : List Int) (q : Addr) (s : S5) (w0 w : World) {r l : Blocks} (hM : Mem w0 w r ((g, rU zs) :: l)) (hl : zs.length = 64) (hc : ∀ (W : World) (ys : List Int) (l2 : Blocks), Mem w0 W r ((g, rU ys) :: (l ++ l2)) → W.cell? q = some (.int .i16 s.1) ∧ W.cell? ⟨q.block, q.off + 1, none⟩ = some (.int .i16 s.2.1) ∧ W.cell? ⟨q.block, q.off + 2, none⟩ = some (.int .i16 s.2.2.1) ∧ W.cell? ⟨q.block, q.off + 3, none⟩ = some (.int .i16 s.2.2.2.1) ∧ W.cell? ⟨q.block, q.off + 4, none⟩ = some (.int .i8 s.2.2.2.2)) (hok : okK s = true) (hwf : wfK s) :
    Calls Try.prog 97 #[.pointer (some ⟨g, 0, none⟩), .pointer (some q)] w (fun e w' => e = .returned (.tuple #[]) ∧ ∃ b, Mem w0 w' r ((g, rU (strokeF putS true zs s)) :: (l ++ [b]))) := by
  have HM : Aside (Mem w0 w r ((g, rU zs) :: l) ∧ zs.length = 64 ∧ wfK s) := ⟨hM, hl, hwf⟩
  have K0 : Aside (∀ (W : World) (ys : List Int) (l2 : Blocks), Mem w0 W r ((g, rU ys) :: (l ++ l2)) → W.cell? q = some (.int .i16 s.1) ∧ W.cell? ⟨q.block, q.off + 1, none⟩ = some (.int .i16 s.2.1) ∧ W.cell? ⟨q.block, q.off + 2, none⟩ = some (.int .i16 s.2.2.1) ∧ W.cell? ⟨q.block, q.off + 3, none⟩ = some (.int .i16 s.2.2.2.1) ∧ W.cell? ⟨q.block, q.off + 4, none⟩ = some (.int .i8 s.2.2.2.2)) := hc
  have hK : ∀ W, Bel w W → (W.cell? q = some (.int .i16 s.1) ∧ W.cell? ⟨q.block, q.off + 1, none⟩ = some (.int .i16 s.2.1) ∧ W.cell? ⟨q.block, q.off + 2, none⟩ = some (.int .i16 s.2.2.1) ∧ W.cell? ⟨q.block, q.off + 3, none⟩ = some (.int .i16 s.2.2.2.1) ∧ W.cell? ⟨q.block, q.off + 4, none⟩ = some (.int .i8 s.2.2.2.2) ∧ Bel w W) := fun W hW => by
    obtain ⟨h1, h2, h3, h4, h5⟩ := K0.out W zs [] (by rw [List.append_nil]; exact HM.out.1.call hW.out)
    exact ⟨h1, h2, h3, h4, h5, hW⟩
  have hmk : okM s.1 s.2.1 = true ∧ okM s.2.2.1 s.2.2.2.1 = true := by
    unfold okK okS at hok
    simp only [Bool.and_eq_true] at hok
    exact ⟨hok.1.1, hok.1.2⟩
  have HMK : Aside (∀ w, Calls Try.prog 132 #[mk s.1 s.2.1, mk s.2.2.1 s.2.2.2.1] w (fun e w' => ∃ g k, e = .returned (.slice (some ⟨g, 0, none⟩) (msK s).length k) ∧ Mem w w' [] [(g, (rM (msK s)).flatten)])) := fun w => l06MarksM s.1 s.2.1 s.2.2.1 s.2.2.2.1 (okM_bd6 hmk.1).1 (okM_bd6 hmk.1).2 (okM_bd6 hmk.2).1 (okM_bd6 hmk.2).2 w
  have hms := msK_len hok
  obtain ⟨ms, hmsd⟩ : ∃ ms, msK s = ms := ⟨_, rfl⟩
  have HSF : Aside (strokeF putS true zs s = inkN putS s.2.2.2.2 true zs ms ms.length) := by
    show strokeF putS true zs s = _
    unfold strokeF
    rw [hmsd]
  rw [hmsd] at HMK hms
  have hmf : (rM ms).flatten.length = ms.length * 2 := by rw [flatten_len rM_row, rM_len]
  have HMF : Aside (ms.length ≤ 1001) := hms
  clear hM hl hwf hc hmk hok hmsd hmf
  go_enter Try.func97, Try.ntmps97
  go_wp2_with fail
  go_region_held3 (fun W => W.cell? q = some (.int .i16 s.1) ∧ W.cell? ⟨q.block, q.off + 1, none⟩ = some (.int .i16 s.2.1) ∧ W.cell? ⟨q.block, q.off + 2, none⟩ = some (.int .i16 s.2.2.1) ∧ W.cell? ⟨q.block, q.off + 3, none⟩ = some (.int .i16 s.2.2.2.1) ∧ W.cell? ⟨q.block, q.off + 4, none⟩ = some (.int .i8 s.2.2.2.2) ∧ Bel w W) (first | (with_reducible assumption) | (refine hK _ ?_; (repeat' (first | (with_reducible exact Bel.refl _) | (with_reducible assumption) | (with_reducible exact And.right (And.right (And.right (And.right (And.right (by assumption)))))) | (with_reducible refine Bel.drew ?_) | (with_reducible refine Bel.step ?_ hb))); done) | go_keep) (first | (go_at_call 132; refine (HMK.out _).mono ?_; rintro e w2 ⟨gl, kl, rfl, hML⟩; have hb := hML.below; have HB2 : Aside (Bel w w2) := Bel.step (And.right (And.right (And.right (And.right (And.right (by assumption)))))) hb; have HL : Aside (Mem w0 w2 r ((g, rU zs) :: (l ++ [(gl, (rM ms).flatten)]))) := Mem.joinG (HM.out.1.call (Bel.out (And.right (And.right (And.right (And.right (And.right (by assumption)))))))) hML; clear hML))
  all_goals go_wp2_with fail
  have HL3 : Aside (∃ W, W = 0) := ⟨0, rfl⟩
  go_loopg [5] ms.length (fun k s5 wr => ∃ (i : Nat), s5 = .int .i64 i ∧ i + k = ms.length ∧ Mem w0 wr r ((g, rU (inkN putS s.2.2.2.2 true zs ms i)) :: (l ++ [(gl, (rM ms).flatten)])))
  · exact ⟨0, rfl, by omega, by first | exact HL.out | exact HL.out.drew⟩
  · obtain ⟨i, rfl, hik, hM⟩ := hrel
    have B : Aside (i + gk = ms.length ∧ Mem w0 wr r ((g, rU (inkN putS s.2.2.2.2 true zs ms i)) :: (l ++ [(gl, (rM ms).flatten)]))) := ⟨hik, hM⟩
    by_cases hi : i < ms.length
    · obtain ⟨m, hm⟩ : ∃ m, ms[i]? = some m := ⟨ms[i], List.getElem?_eq_getElem hi⟩
      have hi' : (i : Int) < (ms.length : Int) := by omega
      have hi0 : (0 : Int) ≤ (i : Int) := Int.natCast_nonneg _
      obtain ⟨z1, z2, z3, z4, z5⟩ := K0.out wr _ _ hM
      have hmem : (gl, (rM ms).flatten) ∈ ((g, rU (inkN putS s.2.2.2.2 true zs ms i)) :: (l ++ [(gl, (rM ms).flatten)])) := by simp
      obtain ⟨q1, _⟩ := Mem.cellIn hM hmem (i * 2 + 0) (.int .i16 m.1) (flatten_get i rM_row (rM_get hm) 0 _ rfl)
      obtain ⟨q2, _⟩ := Mem.cellIn hM hmem (i * 2 + 1) (.int .i16 m.2) (flatten_get i rM_row (rM_get hm) 1 _ rfl)
      rw [Nat.add_zero] at q1
      have HDR : Aside (∀ w, Calls Try.prog 133 #[.int .i8 s.2.2.2.2, .int .i64 (i : Int)] w (Same (isB (drawnF s.2.2.2.2 i)) w)) := l06DrawnA s.2.2.2.2 i HM.out.2.2.2.2.2.2 (by omega) (by omega)
      have hgd : ms.getD i (0, 0) = m := by simp [List.getD_eq_getElem?_getD, hm]
      have HST : Aside (inkN putS s.2.2.2.2 true zs ms (i + 1) = if drawnF s.2.2.2.2 i then putS (inkN putS s.2.2.2.2 true zs ms i) true m.1 m.2 else inkN putS s.2.2.2.2 true zs ms i) := by
        show inkN putS s.2.2.2.2 true zs ms (i + 1) = _
        rw [← hgd]; rfl
      have HLN : Aside ((inkN putS s.2.2.2.2 true zs ms i).length = 64) := by
        show (inkN putS s.2.2.2.2 true zs ms i).length = 64
        rw [inkN_len putS_len]; exact HM.out.2.1
      clear hik hM hm hmem hgd
      generalize inkN putS s.2.2.2.2 true zs ms i = cur at *
      cases hq : drawnF s.2.2.2.2 i
      · rw [hq] at HDR HST
        clear hq
        go_wp2_with (go_at_call 133; refine (HDR.out _).mono ?_; rintro e w3 ⟨_, rfl, rfl, rfl⟩)
        obtain ⟨hik, hM⟩ := B.out
        go_roundg (gk - 1)
        · refine ⟨i + 1, ?_, by omega, ?_⟩
          · first
              | (congr 1; done)
              | (congr 1; unfold wrap64; omega)
          · rw [HST.out]; exact hM
        · omega

      · rw [hq] at HDR HST
        clear hq
        go_wp2_with (first | (go_at_call 133; refine (HDR.out _).mono ?_; rintro e w3 ⟨_, rfl, rfl, rfl⟩) | (go_at_call 134; refine (l06PutS_all g m.1 m.2 true cur w0 _ B.out.2 HLN.out).mono ?_; rintro e w4 ⟨rfl, hM4⟩; have HM4 : Aside (Mem w0 w4 r ((g, rU (putS cur true m.1 m.2)) :: (l ++ [(gl, (rM ms).flatten)]))) := hM4; clear hM4))
        obtain ⟨hik, hM⟩ := B.out
        go_roundg (gk - 1)
        · refine ⟨i + 1, ?_, by omega, ?_⟩
          · first
              | (congr 1; done)
              | (congr 1; unfold wrap64; omega)
          · rw [HST.out]; exact HM4.out
        · omega

    · have hi' : ¬ ((i : Int) < (ms.length : Int)) := by omega
      have hie : i = ms.length := by omega
      go_wp2_with fail
      simp [bodyPost, results, Try.results97, go_sem]
      exact ⟨_, _, by rw [HSF.out, ← hie]; exact hM⟩
--## d
theorem l06StrokeS (g : Nat) (zs : List Int) (q : Addr) (s : S5) (w0 w : World) {r l : Blocks} (hM : Mem w0 w r ((g, rU zs) :: l)) (hl : zs.length = 64) (hq : q.block < w0.heap.size) (hc : w0.cell? q = some (.int .i16 s.1) ∧ w0.cell? ⟨q.block, q.off + 1, none⟩ = some (.int .i16 s.2.1) ∧ w0.cell? ⟨q.block, q.off + 2, none⟩ = some (.int .i16 s.2.2.1) ∧ w0.cell? ⟨q.block, q.off + 3, none⟩ = some (.int .i16 s.2.2.2.1) ∧ w0.cell? ⟨q.block, q.off + 4, none⟩ = some (.int .i8 s.2.2.2.2)) (hok : okK s = true) (hwf : wfK s) :
    Calls Try.prog 97 #[.pointer (some ⟨g, 0, none⟩), .pointer (some q)] w (fun e w' => e = .returned (.tuple #[]) ∧ ∃ b, Mem w0 w' r ((g, rU (strokeF putS true zs s)) :: (l ++ [b]))) :=
  l06StrokeG g zs q s w0 w hM hl (fun W ys l2 hW => by
    obtain ⟨h1, h2, h3, h4, h5⟩ := hc
    exact ⟨by rw [hW.below.cell hq]; exact h1, by rw [hW.below.cell (by exact hq)]; exact h2, by rw [hW.below.cell (by exact hq)]; exact h3, by rw [hW.below.cell (by exact hq)]; exact h4, by rw [hW.below.cell (by exact hq)]; exact h5⟩) hok hwf
--## d
set_option maxHeartbeats 8000000 in
theorem drawI (g : Nat) (zs : List Int) (s : S5) (ink : Bool) (w0 w : World) {r l : Blocks} (hM : Mem w0 w r ((g, rU zs) :: l)) (hl : zs.length = 64) (hok : okK s = true) (hwf : wfK s) :
    Calls Try.prog 136 #[.pointer (some ⟨g, 0, none⟩), st s.1 s.2.1 s.2.2.1 s.2.2.2.1 s.2.2.2.2, .bool ink] w (fun e w' => e = .returned (.tuple #[]) ∧ ∃ b c, Mem w0 w' r ((g, rU (strokeF putI ink zs s)) :: b :: (l ++ [c]))) := by
  have HM : Aside (Mem w0 w r ((g, rU zs) :: l) ∧ zs.length = 64 ∧ wfK s) := ⟨hM, hl, hwf⟩
  have hmk : okM s.1 s.2.1 = true ∧ okM s.2.2.1 s.2.2.2.1 = true := by
    unfold okK okS at hok
    simp only [Bool.and_eq_true] at hok
    exact ⟨hok.1.1, hok.1.2⟩
  have HMK : Aside (∀ w, Calls Try.prog 158 #[st s.1 s.2.1 s.2.2.1 s.2.2.2.1 s.2.2.2.2] w (fun e w' => ∃ g, e = .returned (.slice (some ⟨g, 0, none⟩) (msK s).length (msK s).length) ∧ Mem w w' [] [(g, (rM (msK s)).flatten)])) := fun w => by
    have h := marksI s.1 s.2.1 s.2.2.1 s.2.2.2.1 s.2.2.2.2 (okM_bd6 hmk.1).1 (okM_bd6 hmk.1).2 (okM_bd6 hmk.2).1 (okM_bd6 hmk.2).2 w
    unfold msK
    rw [marksN_len]
    exact h
  have hms := msK_len hok
  obtain ⟨ms, hmsd⟩ : ∃ ms, msK s = ms := ⟨_, rfl⟩
  have HSF : Aside (strokeF putI ink zs s = inkN putI s.2.2.2.2 ink zs ms ms.length) := by
    show strokeF putI ink zs s = _
    unfold strokeF
    rw [hmsd]
  rw [hmsd] at HMK hms
  have HMF : Aside (ms.length ≤ 1001) := hms
  have HMB : Aside (Mem w0 (w.alloc (.cells #[.int .i16 s.1, .int .i16 s.2.1, .int .i16 s.2.2.1, .int .i16 s.2.2.2.1, .int .i8 s.2.2.2.2] 84)) r ((g, rU zs) :: (w.heap.size, [Value.int .i16 s.1, .int .i16 s.2.1, .int .i16 s.2.2.1, .int .i16 s.2.2.2.1, .int .i8 s.2.2.2.2]) :: l)) := Mem.swap2 (Mem.alloc hM #[.int .i16 s.1, .int .i16 s.2.1, .int .i16 s.2.2.1, .int .i16 s.2.2.2.1, .int .i8 s.2.2.2.2] 84)
  clear hM hl hwf hmk hok hmsd
  go_enter Try.func136, Try.ntmps136
  go_wp2_with (go_at_call 158; refine (HMK.out _).mono ?_; rintro e w2 ⟨gl, rfl, hML⟩; have HL : Aside (Mem w0 w2 r ((g, rU zs) :: (w.heap.size, [Value.int .i16 s.1, .int .i16 s.2.1, .int .i16 s.2.2.1, .int .i16 s.2.2.2.1, .int .i8 s.2.2.2.2]) :: (l ++ [(gl, (rM ms).flatten)]))) := Mem.joinG HMB.out hML; clear hML)
  go_loopg [6, 11] ms.length (fun k s6 s11 wr => ∃ (i : Nat), s11 = .int .i64 i ∧ i + k = ms.length ∧ Mem w0 wr r ((g, rU (inkN putI s.2.2.2.2 ink zs ms i)) :: (w.heap.size, [Value.int .i16 s.1, .int .i16 s.2.1, .int .i16 s.2.2.1, .int .i16 s.2.2.2.1, .int .i8 s.2.2.2.2]) :: (l ++ [(gl, (rM ms).flatten)])))
  · exact ⟨0, rfl, by omega, by first | exact HL.out | exact HL.out.drew⟩
  · obtain ⟨i, rfl, hik, hM⟩ := hrel
    have B : Aside (i + gk = ms.length ∧ Mem w0 wr r ((g, rU (inkN putI s.2.2.2.2 ink zs ms i)) :: (w.heap.size, [Value.int .i16 s.1, .int .i16 s.2.1, .int .i16 s.2.2.1, .int .i16 s.2.2.2.1, .int .i8 s.2.2.2.2]) :: (l ++ [(gl, (rM ms).flatten)]))) := ⟨hik, hM⟩
    by_cases hi : i < ms.length
    · obtain ⟨m, hm⟩ : ∃ m, ms[i]? = some m := ⟨ms[i], List.getElem?_eq_getElem hi⟩
      have hi' : (i : Int) < (ms.length : Int) := by omega
      have hi0 : (0 : Int) ≤ (i : Int) := Int.natCast_nonneg _
      have hmem : (gl, (rM ms).flatten) ∈ ((g, rU (inkN putI s.2.2.2.2 ink zs ms i)) :: (w.heap.size, [Value.int .i16 s.1, .int .i16 s.2.1, .int .i16 s.2.2.1, .int .i16 s.2.2.2.1, .int .i8 s.2.2.2.2]) :: (l ++ [(gl, (rM ms).flatten)])) := by simp
      have hmem2 : (w.heap.size, [Value.int .i16 s.1, .int .i16 s.2.1, .int .i16 s.2.2.1, .int .i16 s.2.2.2.1, .int .i8 s.2.2.2.2]) ∈ ((g, rU (inkN putI s.2.2.2.2 ink zs ms i)) :: (w.heap.size, [Value.int .i16 s.1, .int .i16 s.2.1, .int .i16 s.2.2.1, .int .i16 s.2.2.2.1, .int .i8 s.2.2.2.2]) :: (l ++ [(gl, (rM ms).flatten)])) := by simp
      obtain ⟨q1, _⟩ := Mem.cellIn hM hmem (i * 2 + 0) (.int .i16 m.1) (flatten_get i rM_row (rM_get hm) 0 _ rfl)
      obtain ⟨q2, _⟩ := Mem.cellIn hM hmem (i * 2 + 1) (.int .i16 m.2) (flatten_get i rM_row (rM_get hm) 1 _ rfl)
      obtain ⟨q3, _⟩ := Mem.cellIn hM hmem2 4 (.int .i8 s.2.2.2.2) rfl
      have hsz := (hM.new _ hmem2).2.1
      rw [Nat.add_zero] at q1
      have HDR : Aside (∀ w, Calls Try.prog 159 #[.int .i8 s.2.2.2.2, .int .i64 (i : Int)] w (Gives (isB (drawnF s.2.2.2.2 i)) w)) := fun w => by
        have h := IsDrawnI s.2.2.2.2 i HM.out.2.2.2.2.2.2 (by omega) (by omega) w
        rw [show decide ((0 : Int) ≤ (i : Int)) = true from decide_eq_true hi0, Bool.true_and] at h
        exact h
      have hgd : ms.getD i (0, 0) = m := by simp [List.getD_eq_getElem?_getD, hm]
      have HST : Aside (inkN putI s.2.2.2.2 ink zs ms (i + 1) = if drawnF s.2.2.2.2 i then putI (inkN putI s.2.2.2.2 ink zs ms i) ink m.1 m.2 else inkN putI s.2.2.2.2 ink zs ms i) := by
        show inkN putI s.2.2.2.2 ink zs ms (i + 1) = _
        rw [← hgd]; rfl
      have HLN : Aside ((inkN putI s.2.2.2.2 ink zs ms i).length = 64) := by
        show (inkN putI s.2.2.2.2 ink zs ms i).length = 64
        rw [inkN_len putI_len]; exact HM.out.2.1
      clear hik hM hm hmem hmem2 hgd
      generalize inkN putI s.2.2.2.2 ink zs ms i = cur at *
      cases hq : drawnF s.2.2.2.2 i
      all_goals
        rw [hq] at HDR HST
        clear hq
        go_wp2_with (first | (go_at_call 159; refine (HDR.out _).mono ?_; rintro e w3 ⟨_, rfl, rfl, hb⟩; have HM3 : Aside (Mem w0 w3 r ((g, rU cur) :: (w.heap.size, [Value.int .i16 s.1, .int .i16 s.2.1, .int .i16 s.2.2.1, .int .i16 s.2.2.2.1, .int .i8 s.2.2.2.2]) :: (l ++ [(gl, (rM ms).flatten)]))) := (B.out.2.call (below_alloc (Below.refl _ _))).call hb; obtain ⟨hc, hf⟩ := bcell hb; (try simp at hc hf); have hs := hb.size; (try simp at hs); have hz0 : wr.heap.size < w3.heap.size := (by omega); clear hb) | (go_at_call 94; refine (putI_all g m.1 m.2 ink cur w0 _ HM3.out HLN.out).mono ?_; rintro e w4 ⟨rfl, hM4⟩; have HM4 : Aside (Mem w0 w4 r ((g, rU (putI cur ink m.1 m.2)) :: (w.heap.size, [Value.int .i16 s.1, .int .i16 s.2.1, .int .i16 s.2.2.1, .int .i16 s.2.2.2.1, .int .i8 s.2.2.2.2]) :: (l ++ [(gl, (rM ms).flatten)]))) := hM4; clear hM4))
        obtain ⟨hik, hM⟩ := B.out
        go_roundg (gk - 1)
        · refine ⟨i + 1, ?_, by omega, ?_⟩
          · first
              | (congr 1; done)
              | (congr 1; unfold wrap64; omega)
          · rw [HST.out]; first | exact HM4.out | exact HM3.out
        · omega

    · have hi' : ¬ ((i : Int) < (ms.length : Int)) := by omega
      have hie : i = ms.length := by omega
      go_wp2_with fail
      simp [bodyPost, results, Try.results136, go_sem]
      exact ⟨_, _, _, _, by rw [HSF.out, ← hie]; exact hM⟩
--## d
end Go.Proofs.Ytpaangcbcknhlaa
