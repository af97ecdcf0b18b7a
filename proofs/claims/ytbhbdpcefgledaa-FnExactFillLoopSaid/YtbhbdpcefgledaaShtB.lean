/- Contracts: strokes are drawn on sheets (both sides). -/
import Derived.Test.YtbhbdpcefgledaaShtA
import Derived.Test.YtbhbdpcefgledaaMrkM
import Derived.Test.YtbhbdpcefgledaaWayA
namespace Go.Proofs.Ytbhbdpcefgledaa
--## d
open Go.RowKit Go.Mem
set_option linter.unusedSimpArgs false
set_option linter.unusedVariables false
set_option maxRecDepth 20000
--## d
def inkN (put : List Int → Bool → Int → Int → List Int) (d : Int) (ink : Bool) (zs : List Int) (ms : List (Int × Int)) : Nat → List Int
  | 0 => zs
  | k + 1 => if drawnF d k then put (inkN put d ink zs ms k) ink (ms.getD k (0, 0)).1 (ms.getD k (0, 0)).2 else inkN put d ink zs ms k
--## d
def msK (s : S5) : List (Int × Int) := marksN s.1 s.2.1 s.2.2.1 s.2.2.2.1 (distF s.1 s.2.1 s.2.2.1 s.2.2.2.1)
--## d
def strokeF (put : List Int → Bool → Int → Int → List Int) (ink : Bool) (zs : List Int) (s : S5) : List Int := inkN put s.2.2.2.2 ink zs (msK s) (msK s).length
--## d
theorem inkN_len {put : List Int → Bool → Int → Int → List Int} (hp : ∀ zs ink x y, (put zs ink x y).length = zs.length) (d : Int) (ink : Bool) (zs : List Int) (ms : List (Int × Int)) : ∀ k, (inkN put d ink zs ms k).length = zs.length
  | 0 => rfl
  | k + 1 => by
    unfold inkN
    split
    · rw [hp, inkN_len hp d ink zs ms k]
    · exact inkN_len hp d ink zs ms k
--## d
theorem strokeF_len {put : List Int → Bool → Int → Int → List Int} (hp : ∀ zs ink x y, (put zs ink x y).length = zs.length) (ink : Bool) (zs : List Int) (s : S5) : (strokeF put ink zs s).length = zs.length := inkN_len hp _ _ _ _ _
--## d
theorem Mem.swap2 {w W : World} {r l : Blocks} {x y : Nat × List Value} (h : Mem w W r (x :: y :: l)) : Mem w W r (y :: x :: l) := by
  refine ⟨h.below, h.old, fun z hz => h.new z (by simp at hz ⊢; rcases hz with h | h | h <;> simp [h]), ?_⟩
  have := h.apart
  simp only [List.map_cons, List.nodup_cons, List.mem_cons, not_or] at this ⊢
  exact ⟨⟨fun e => this.1.1 e.symm, this.2.1⟩, this.1.2, this.2.2⟩
--## d
theorem okM_bd6 {x y : Int} (h : okM x y = true) : (-500 ≤ x ∧ x ≤ 500) ∧ (-500 ≤ y ∧ y ≤ 500) := by
  simp [okM, inB] at h
  omega
--## d
theorem msK_len {s : S5} (h : okK s = true) : (msK s).length ≤ 1001 := by
  unfold okK okS at h
  simp only [Bool.and_eq_true] at h
  have h1 := okM_bd6 h.1.1
  have h2 := okM_bd6 h.1.2
  have := dist_bd h1.1 h1.2 h2.1 h2.2
  unfold msK
  rw [marksN_len]
  omega
--## d
set_option maxHeartbeats 8000000 in
theorem drawI (g : Nat) (zs : List Int) (s : S5) (ink : Bool) (w0 w : World) {r l : Blocks} (hM : Mem w0 w r ((g, rU zs) :: l)) (hl : zs.length = 64) (hok : okK s = true) (hwf : wfK s) :
    Calls Try.prog 65 #[.pointer (some ⟨g, 0, none⟩), st s.1 s.2.1 s.2.2.1 s.2.2.2.1 s.2.2.2.2, .bool ink] w (fun e w' => e = .returned (.tuple #[]) ∧ ∃ b c, Mem w0 w' r ((g, rU (strokeF putI ink zs s)) :: b :: (l ++ [c]))) := by
  have HM : Aside (Mem w0 w r ((g, rU zs) :: l) ∧ zs.length = 64 ∧ wfK s) := ⟨hM, hl, hwf⟩
  have hmk : okM s.1 s.2.1 = true ∧ okM s.2.2.1 s.2.2.2.1 = true := by
    unfold okK okS at hok
    simp only [Bool.and_eq_true] at hok
    exact ⟨hok.1.1, hok.1.2⟩
  have HMK : Aside (∀ w, Calls Try.prog 84 #[st s.1 s.2.1 s.2.2.1 s.2.2.2.1 s.2.2.2.2] w (fun e w' => ∃ g, e = .returned (.slice (some ⟨g, 0, none⟩) (msK s).length (msK s).length) ∧ Mem w w' [] [(g, (rM (msK s)).flatten)])) := fun w => by
    have h := marksI s.1 s.2.1 s.2.2.1 s.2.2.2.1 s.2.2.2.2 (okM_bd6 hmk.1).1 (okM_bd6 hmk.1).2 (okM_bd6 hmk.2).1 (okM_bd6 hmk.2).2 w
    unfold msK
    rw [marksN_len]
    exact h
  have hms := msK_len hok
  obtain ⟨ms, hmsd⟩ : ∃ ms, msK s = ms := ⟨_, rfl⟩
  have HSF : Aside (strokeF putI ink zs s = inkN putI s.2.2.2.2 ink zs ms ms.length) := by
    show strokeF putI ink zs s = _
    unfold strokeF
    rw [hmsd]
  rw [hmsd] at HMK hms
  have HMF : Aside (ms.length ≤ 1001) := hms
  have HMB : Aside (Mem w0 (w.alloc (.cells #[.int .i16 s.1, .int .i16 s.2.1, .int .i16 s.2.2.1, .int .i16 s.2.2.2.1, .int .i8 s.2.2.2.2] 70)) r ((g, rU zs) :: (w.heap.size, [Value.int .i16 s.1, .int .i16 s.2.1, .int .i16 s.2.2.1, .int .i16 s.2.2.2.1, .int .i8 s.2.2.2.2]) :: l)) := Mem.swap2 (Mem.alloc hM #[.int .i16 s.1, .int .i16 s.2.1, .int .i16 s.2.2.1, .int .i16 s.2.2.2.1, .int .i8 s.2.2.2.2] 70)
  clear hM hl hwf hmk hok hmsd
  go_enter Try.func65, Try.ntmps65
  go_wp2_with (go_at_call 84; refine (HMK.out _).mono ?_; rintro e w2 ⟨gl, rfl, hML⟩; have HL : Aside (Mem w0 w2 r ((g, rU zs) :: (w.heap.size, [Value.int .i16 s.1, .int .i16 s.2.1, .int .i16 s.2.2.1, .int .i16 s.2.2.2.1, .int .i8 s.2.2.2.2]) :: (l ++ [(gl, (rM ms).flatten)]))) := Mem.joinG HMB.out hML; clear hML)
  go_loopg [6, 11] ms.length (fun k s6 s11 wr => ∃ (i : Nat), s11 = .int .i64 i ∧ i + k = ms.length ∧ Mem w0 wr r ((g, rU (inkN putI s.2.2.2.2 ink zs ms i)) :: (w.heap.size, [Value.int .i16 s.1, .int .i16 s.2.1, .int .i16 s.2.2.1, .int .i16 s.2.2.2.1, .int .i8 s.2.2.2.2]) :: (l ++ [(gl, (rM ms).flatten)])))
  · exact ⟨0, rfl, by omega, by first | exact HL.out | exact HL.out.drew⟩
  · obtain ⟨i, rfl, hik, hM⟩ := hrel
    have B : Aside (i + gk = ms.length ∧ Mem w0 wr r ((g, rU (inkN putI s.2.2.2.2 ink zs ms i)) :: (w.heap.size, [Value.int .i16 s.1, .int .i16 s.2.1, .int .i16 s.2.2.1, .int .i16 s.2.2.2.1, .int .i8 s.2.2.2.2]) :: (l ++ [(gl, (rM ms).flatten)]))) := ⟨hik, hM⟩
    by_cases hi : i < ms.length
    · obtain ⟨m, hm⟩ : ∃ m, ms[i]? = some m := ⟨ms[i], List.getElem?_eq_getElem hi⟩
      have hi' : (i : Int) < (ms.length : Int) := by omega
      have hi0 : (0 : Int) ≤ (i : Int) := Int.natCast_nonneg _
      have hmem : (gl, (rM ms).flatten) ∈ ((g, rU (inkN putI s.2.2.2.2 ink zs ms i)) :: (w.heap.size, [Value.int .i16 s.1, .int .i16 s.2.1, .int .i16 s.2.2.1, .int .i16 s.2.2.2.1, .int .i8 s.2.2.2.2]) :: (l ++ [(gl, (rM ms).flatten)])) := by simp
      have hmem2 : (w.heap.size, [Value.int .i16 s.1, .int .i16 s.2.1, .int .i16 s.2.2.1, .int .i16 s.2.2.2.1, .int .i8 s.2.2.2.2]) ∈ ((g, rU (inkN putI s.2.2.2.2 ink zs ms i)) :: (w.heap.size, [Value.int .i16 s.1, .int .i16 s.2.1, .int .i16 s.2.2.1, .int .i16 s.2.2.2.1, .int .i8 s.2.2.2.2]) :: (l ++ [(gl, (rM ms).flatten)])) := by simp
      obtain ⟨q1, _⟩ := Mem.cellIn hM hmem (i * 2 + 0) (.int .i16 m.1) (flatten_get i rM_row (rM_get hm) 0 _ rfl)
      obtain ⟨q2, _⟩ := Mem.cellIn hM hmem (i * 2 + 1) (.int .i16 m.2) (flatten_get i rM_row (rM_get hm) 1 _ rfl)
      obtain ⟨q3, _⟩ := Mem.cellIn hM hmem2 4 (.int .i8 s.2.2.2.2) rfl
      have hsz := (hM.new _ hmem2).2.1
      rw [Nat.add_zero] at q1
      have HDR : Aside (∀ w, Calls Try.prog 85 #[.int .i8 s.2.2.2.2, .int .i64 (i : Int)] w (Gives (isB (drawnF s.2.2.2.2 i)) w)) := fun w => by
        have h := IsDrawnI s.2.2.2.2 i HM.out.2.2.2.2.2.2 (by omega) (by omega) w
        rw [show decide ((0 : Int) ≤ (i : Int)) = true from decide_eq_true hi0, Bool.true_and] at h
        exact h
      have hgd : ms.getD i (0, 0) = m := by simp [List.getD_eq_getElem?_getD, hm]
      have HST : Aside (inkN putI s.2.2.2.2 ink zs ms (i + 1) = if drawnF s.2.2.2.2 i then putI (inkN putI s.2.2.2.2 ink zs ms i) ink m.1 m.2 else inkN putI s.2.2.2.2 ink zs ms i) := by
        show inkN putI s.2.2.2.2 ink zs ms (i + 1) = _
        rw [← hgd]; rfl
      have HLN : Aside ((inkN putI s.2.2.2.2 ink zs ms i).length = 64) := by
        show (inkN putI s.2.2.2.2 ink zs ms i).length = 64
        rw [inkN_len putI_len]; exact HM.out.2.1
      clear hik hM hm hmem hmem2 hgd
      generalize inkN putI s.2.2.2.2 ink zs ms i = cur at *
      cases hq : drawnF s.2.2.2.2 i
      all_goals
        rw [hq] at HDR HST
        clear hq
        go_wp2_with (first | (go_at_call 85; refine (HDR.out _).mono ?_; rintro e w3 ⟨_, rfl, rfl, hb⟩; have HM3 : Aside (Mem w0 w3 r ((g, rU cur) :: (w.heap.size, [Value.int .i16 s.1, .int .i16 s.2.1, .int .i16 s.2.2.1, .int .i16 s.2.2.2.1, .int .i8 s.2.2.2.2]) :: (l ++ [(gl, (rM ms).flatten)]))) := (B.out.2.call (below_alloc (Below.refl _ _))).call hb; obtain ⟨hc, hf⟩ := bcell hb; (try simp at hc hf); have hs := hb.size; (try simp at hs); have hz0 : wr.heap.size < w3.heap.size := (by omega); clear hb) | (go_at_call 64; refine (putI_all g m.1 m.2 ink cur w0 _ HM3.out HLN.out).mono ?_; rintro e w4 ⟨rfl, hM4⟩; have HM4 : Aside (Mem w0 w4 r ((g, rU (putI cur ink m.1 m.2)) :: (w.heap.size, [Value.int .i16 s.1, .int .i16 s.2.1, .int .i16 s.2.2.1, .int .i16 s.2.2.2.1, .int .i8 s.2.2.2.2]) :: (l ++ [(gl, (rM ms).flatten)]))) := hM4; clear hM4))
        obtain ⟨hik, hM⟩ := B.out
        go_roundg (gk - 1)
        · refine ⟨i + 1, ?_, by omega, ?_⟩
          · first
              | (congr 1; done)
              | (congr 1; unfold wrap64; omega)
          · rw [HST.out]; first | exact HM4.out | exact HM3.out
        · omega

    · have hi' : ¬ ((i : Int) < (ms.length : Int)) := by omega
      have hie : i = ms.length := by omega
      go_wp2_with fail
      simp [bodyPost, results, Try.results65, go_sem]
      exact ⟨_, _, _, _, by rw [HSF.out, ← hie]; exact hM⟩
--## d
end Go.Proofs.Ytbhbdpcefgledaa
