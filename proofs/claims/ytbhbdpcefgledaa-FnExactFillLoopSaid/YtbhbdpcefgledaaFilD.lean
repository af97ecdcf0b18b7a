/- Contracts: the filling of a loop (program). -/
import Derived.Test.YtbhbdpcefgledaaFilC
import Derived.WalkMore
namespace Go.Proofs.Ytbhbdpcefgledaa
--## d
open Go.Inv
--## d
open Go.ChangeShapes Go.WideShapes Go.ChangeAt Go.RowKit Go.Flo Go.Mem
set_option linter.unusedSimpArgs false
set_option linter.unusedVariables false
set_option maxRecDepth 20000
--## d
theorem getD_mem {ms : List (Int × Int)} {i : Nat} (h : i < ms.length) : ms.getD i (0, 0) ∈ ms := by
  rw [List.getD_eq_getElem?_getD, List.getElem?_eq_getElem h]
  exact List.getElem_mem _
--## d
theorem sides_ok {ms : List (Int × Int)} (h : ∀ m ∈ ms, okM m.1 m.2 = true) : ∀ s ∈ sidesL ms, wfK s ∧ okK s = true := by
  intro s hs
  unfold sidesL at hs
  obtain ⟨i, hi, rfl⟩ := List.mem_map.1 hs
  have hi' : i < ms.length := List.mem_range.1 hi
  have ha := h _ (getD_mem hi')
  have hb := h _ (getD_mem (Nat.mod_lt (i + 1) (by omega : 0 < ms.length)))
  generalize ms.getD i (0, 0) = p at *
  generalize ms.getD ((i + 1) % ms.length) (0, 0) = q at *
  have b1 := okM_bd6 ha
  have b2 := okM_bd6 hb
  have w1 : I16 p.1 := ⟨by omega, by omega⟩
  have w2 : I16 p.2 := ⟨by omega, by omega⟩
  have w3 : I16 q.1 := ⟨by omega, by omega⟩
  have w4 : I16 q.2 := ⟨by omega, by omega⟩
  refine ⟨⟨w1, w2, w3, w4, ⟨by show (-128 : Int) ≤ 0; omega, by show (0 : Int) ≤ 127; omega⟩⟩, ?_⟩
  unfold okK okS
  simp only [ha, hb, Bool.true_and]
  rfl
--## d
theorem rls_sides {w0 W : World} {r l : Blocks} {gs : Nat} {ms : List (Int × Int)} (HM : Mem w0 W r l) (h : (gs, (rK (sidesL ms)).flatten) ∈ l) : Rls 5 W (.slice (some ⟨gs, 0, none⟩) ms.length ms.length) (rK (sidesL ms)) := by
  have hx := rls_flat (rs := rK (sidesL ms)) rK_row HM h
  rw [rK_len, sidesL_len] at hx
  exact hx
--## d
set_option maxHeartbeats 8000000 in
theorem fillI (g : Nat) (zs : List Int) (v : Value) (ms : List (Int × Int)) (ink : Bool) (w0 w : World) {r l : Blocks} (hM : Mem w0 w r ((g, rU zs) :: l)) (hl : zs.length = 64) (hP : Rls 2 w v (rM ms)) (hn : ms.length ≤ 16) (hok : ∀ m ∈ ms, okM m.1 m.2 = true) :
    Calls Try.prog 33 #[.pointer (some ⟨g, 0, none⟩), v, .bool ink] w (fun e w' => e = .returned (.tuple #[]) ∧ ∃ L, Mem w0 w' r ((g, rU (fillF putI ink (sidesL ms) zs)) :: L) ∧ ∀ x ∈ l, x ∈ L) := by
  have A : Aside (Mem w0 w r ((g, rU zs) :: l) ∧ zs.length = 64 ∧ ms.length ≤ 16) := ⟨hM, hl, hn⟩
  have HS : Aside (∀ s ∈ sidesL ms, wfK s ∧ okK s = true) := sides_ok hok
  have HSD : Aside (∀ w', Below w.heap.size w w' → Calls Try.prog 62 #[v] w' (fun e w'' => e = .returned (.slice (some ⟨w'.heap.size, 0, none⟩) ms.length ms.length) ∧ Mem w' w'' [] [(w'.heap.size, (rK (sidesL ms)).flatten)])) := fun w' hb => sidesOfI v ms w' (hP.below hb) hn
  clear hM hl hn hok hP
  go_enter Try.func33, Try.ntmps33
  go_step3
  go_wp2_with (go_at_call 62; refine (HSD.out _ (Below.refl _ _)).mono ?_; obtain ⟨gs, hgs⟩ : ∃ gs, gs = w.heap.size := ⟨_, rfl⟩; rw [← hgs]; rintro e w1 ⟨rfl, hJ⟩; have HJ : Aside (Mem w0 w1 r ((g, rU zs) :: (l ++ [(gs, (rK (sidesL ms)).flatten)]))) := Mem.joinG A.out.1 hJ; clear hJ hgs)
  clear HSD
  go_step3
  go_wp2_with fail
  go_loopg [14] 64 (fun k s14 wr => ∃ (y : Nat) (L : Blocks), s14 = .int .i16 y ∧ y + k = 64 ∧ Mem w0 wr r ((g, rU (gridF putI ink (sidesL ms) zs y)) :: L) ∧ (gs, (rK (sidesL ms)).flatten) ∈ L ∧ ∀ x ∈ l, x ∈ L)
  · exact ⟨0, _, rfl, by omega, HJ.out, by simp, fun x hx => by simp [hx]⟩
  · obtain ⟨y, L, rfl, hyk, hM, hgs, hLl⟩ := hrel
    have B : Aside (y + gk = 64 ∧ Mem w0 wr r ((g, rU (gridF putI ink (sidesL ms) zs y)) :: L) ∧ (gs, (rK (sidesL ms)).flatten) ∈ L ∧ ∀ x ∈ l, x ∈ L) := ⟨hyk, hM, hgs, hLl⟩
    clear hM hgs hLl
    by_cases hy : y < 64
    · have hy' : (y : Int) < 64 := by omega
      have hy0 : (0 : Int) ≤ (y : Int) := Int.natCast_nonneg _
      go_wp2_with fail
      have HRW : Aside (gridF putI ink (sidesL ms) zs (y + 1) = rowF putI ink (sidesL ms) y (gridF putI ink (sidesL ms) zs y) 64) := rfl
      have HLG : Aside ((gridF putI ink (sidesL ms) zs y).length = 64) := by
        show (gridF putI ink (sidesL ms) zs y).length = 64
        rw [gridF_len putI_len]; exact A.out.2.1
      generalize gridF putI ink (sidesL ms) zs y = G at *
      go_loopg [17] 64 (fun k s17 wq => ∃ (i : Nat) (L : Blocks), s17 = .int .i16 i ∧ i + k = 64 ∧ Mem w0 wq r ((g, rU (rowF putI ink (sidesL ms) y G i)) :: L) ∧ (gs, (rK (sidesL ms)).flatten) ∈ L ∧ ∀ x ∈ l, x ∈ L)
      · exact ⟨0, _, rfl, by omega, B.out.2⟩
      · obtain ⟨i, L, rfl, hik, hM, hgs, hLl⟩ := hrel
        have D : Aside (i + gk = 64 ∧ Mem w0 wr r ((g, rU (rowF putI ink (sidesL ms) y G i)) :: L) ∧ (gs, (rK (sidesL ms)).flatten) ∈ L ∧ ∀ x ∈ l, x ∈ L) := ⟨hik, hM, hgs, hLl⟩
        by_cases hi : i < 64
        · have hi' : (i : Int) < 64 := by omega
          have hi0 : (0 : Int) ≤ (i : Int) := Int.natCast_nonneg _
          have HCN : Aside (∀ w', Below wr.heap.size wr w' → Calls Try.prog 63 #[.slice (some ⟨gs, 0, none⟩) ms.length ms.length, mk i y] w' (Gives (isI ((cnt (sidesL ms) i y (sidesL ms).length : Nat) : Int)) w')) := fun w' hb => crossingsI _ (sidesL ms) i y ⟨by omega, by omega⟩ ⟨by omega, by omega⟩ w' ((rls_sides hM (.tail _ hgs)).below hb) (by rw [sidesL_len]; have := A.out.2.2; omega) (fun s hs => (HS.out s hs).1)
          have HST : Aside (rowF putI ink (sidesL ms) y G (i + 1) = if cnt (sidesL ms) i y (sidesL ms).length % 2 = 1 then putI (rowF putI ink (sidesL ms) y G i) ink i y else rowF putI ink (sidesL ms) y G i) := rfl
          have HSP : Aside (cnt (sidesL ms) i y (sidesL ms).length = 0 → ∀ k, rowF putI ink (sidesL ms) y G (i + k) = rowF putI ink (sidesL ms) y G i) := fun h => rowF_stop h
          have HLN : Aside ((rowF putI ink (sidesL ms) y G i).length = 64) := by
            show (rowF putI ink (sidesL ms) y G i).length = 64
            rw [rowF_len putI_len]; exact HLG.out
          clear hik hM hgs hLl hyk
          generalize cnt (sidesL ms) i y (sidesL ms).length = c at *
          by_cases hc : c = 0
          · subst hc
            go_wp2_with (go_at_call 63; refine (HCN.out _ (Below.refl _ _)).mono ?_; rintro e w2 ⟨_, rfl, rfl, hb2⟩)
            have hstop := HSP.out (by first | trivial | rfl) (64 - i)
            rw [show i + (64 - i) = 64 by omega] at hstop
            obtain ⟨_, hM, hgs, hLl⟩ := D.out
            have hyk := B.out.1
            go_roundg (63 - y)
            · refine ⟨y + 1, L, ?_, by omega, ?_, hgs, hLl⟩
              · first | (congr 1; done) | (congr 1; simp [IntKind.wrap, IntKind.signed, IntKind.bits]; omega)
              · rw [HRW.out, hstop]; exact hM.call hb2
            · omega
          · have hc0 : ¬ ((c : Int) = 0) := by omega
            by_cases ho : c % 2 = 1
            · have ho2 : ((c : Int).tmod 2) = 1 := by rw [Int.tmod_eq_emod_of_nonneg (by omega)]; omega
              go_wp2_with (first | (go_at_call 63; refine (HCN.out _ (Below.refl _ _)).mono ?_; rintro e w2 ⟨_, rfl, rfl, hb2⟩) | (go_at_call 64; refine (putI_all g i y ink _ w0 _ (D.out.2.1.call hb2) HLN.out).mono ?_; rintro e w4 ⟨rfl, hM4⟩; have HM4 := Lib.hid hM4; clear hM4))
              obtain ⟨hik, hM, hgs, hLl⟩ := D.out
              go_roundg (gk - 1)
              · refine ⟨i + 1, L, ?_, by omega, ?_, hgs, hLl⟩
                · first | (congr 1; done) | (congr 1; simp [IntKind.wrap, IntKind.signed, IntKind.bits]; omega)
                · rw [HST.out, if_pos ho]; exact HM4.out
              · omega
            · have ho2 : ((c : Int).tmod 2) = 0 := by rw [Int.tmod_eq_emod_of_nonneg (by omega)]; omega
              go_wp2_with (go_at_call 63; refine (HCN.out _ (Below.refl _ _)).mono ?_; rintro e w2 ⟨_, rfl, rfl, hb2⟩)
              obtain ⟨hik, hM, hgs, hLl⟩ := D.out
              go_roundg (gk - 1)
              · refine ⟨i + 1, L, ?_, by omega, ?_, hgs, hLl⟩
                · first | (congr 1; done) | (congr 1; simp [IntKind.wrap, IntKind.signed, IntKind.bits]; omega)
                · rw [HST.out, if_neg ho]; exact hM.call hb2
              · omega
        · have hi' : ¬ ((i : Int) < 64) := by omega
          have hie : i = 64 := by omega
          clear hyk
          go_wp2_with fail
          have hyk := B.out.1
          go_roundg (63 - y)
          · refine ⟨y + 1, L, ?_, by omega, ?_, hgs, hLl⟩
            · first | (congr 1; done) | (congr 1; simp [IntKind.wrap, IntKind.signed, IntKind.bits]; omega)
            · rw [HRW.out, ← hie]; exact hM
          · omega
    · have hy' : ¬ ((y : Int) < 64) := by omega
      have hye : y = 64 := by omega
      subst hye
      clear hyk
      go_wp2_with fail
      have HFI : Aside (fillF putI ink (sidesL ms) zs = inkS putI ink (gridF putI ink (sidesL ms) zs 64) (sidesL ms) (sidesL ms).length) := rfl
      have HLG : Aside ((gridF putI ink (sidesL ms) zs 64).length = 64) := by
        show (gridF putI ink (sidesL ms) zs 64).length = 64
        rw [gridF_len putI_len]; exact A.out.2.1
      generalize gridF putI ink (sidesL ms) zs 64 = G at *
      go_loopg [40] ms.length (fun k s40 wr => ∃ (i : Nat) (L : Blocks), s40 = .int .i64 i ∧ i + k = ms.length ∧ Mem w0 wr r ((g, rU (inkS putI ink G (sidesL ms) i)) :: L) ∧ (gs, (rK (sidesL ms)).flatten) ∈ L ∧ ∀ x ∈ l, x ∈ L)
      · exact ⟨0, _, rfl, by omega, B.out.2⟩
      · obtain ⟨i, L, rfl, hik, hM, hgs, hLl⟩ := hrel
        have D : Aside (i + gk = ms.length ∧ Mem w0 wr r ((g, rU (inkS putI ink G (sidesL ms) i)) :: L) ∧ (gs, (rK (sidesL ms)).flatten) ∈ L ∧ ∀ x ∈ l, x ∈ L) := ⟨hik, hM, hgs, hLl⟩
        by_cases hi : i < ms.length
        · obtain ⟨s, hs⟩ : ∃ s, (sidesL ms)[i]? = some s := ⟨(sidesL ms)[i]'(by rw [sidesL_len]; exact hi), List.getElem?_eq_getElem _⟩
          obtain ⟨b, c', e0, hbl, hcells⟩ := (rls_sides hM (.tail _ hgs)).at (rK_get hs)
          rw [rK_len, sidesL_len] at e0
          cases e0
          have hi' : (i : Int) < (ms.length : Int) := by omega
          have hgd : (sidesL ms).getD i (0, 0, 0, 0, 0) = s := by simp [List.getD_eq_getElem?_getD, hs]
          have HST : Aside (inkS putI ink G (sidesL ms) (i + 1) = strokeF putI ink (inkS putI ink G (sidesL ms) i) s) := by
            show inkS putI ink G (sidesL ms) (i + 1) = _
            rw [← hgd]; rfl
          have HLN : Aside ((inkS putI ink G (sidesL ms) i).length = 64) := by
            show (inkS putI ink G (sidesL ms) i).length = 64
            rw [inkS_len putI_len]; exact HLG.out
          have P0 : Aside (wfK s ∧ okK s = true) := HS.out s (List.mem_of_getElem? hs)
          simp only [Addr.add_mid, Nat.zero_add] at hcells
          have C : Aside (∀ k x, ([.int .i16 s.1, .int .i16 s.2.1, .int .i16 s.2.2.1, .int .i16 s.2.2.2.1, .int .i8 s.2.2.2.2] : List Value)[k]? = some x → wr.cell? ((Addr.mk gs (i * 5) none).add k) = some x) := fun k x h => by have := hcells k x h; simpa only [Addr.add_mid] using this
          have h16 : (ms.length : Int) ≤ 16 := by have := A.out.2.2; omega
          clear hcells hbl hs hik hM hgs hLl hgd
          go_wp2_with (first
            | (refine wpList_idxR rfl rfl (by kernel_rfl) (by kernel_rfl) rfl rfl (Int.natCast_nonneg _) hi' ?_; simp only [Int.toNat_natCast, Addr.add_mid, Nat.zero_add])
            | (refine wpList_rowR rfl rfl (n := 5) (by kernel_rfl) rfl rfl C.out ?_)
            | (go_at_call 65; refine (drawI g _ s ink w0 _ (D.out.2.1.call (below_alloc (Below.refl _ _))) HLN.out P0.out.2 P0.out.1).mono ?_; rintro e w3 ⟨rfl, bx, cx, hM3⟩; have HM3 := Lib.hid hM3; clear hM3))
          obtain ⟨hik, hM, hgs, hLl⟩ := D.out
          go_roundg (gk - 1)
          · refine ⟨i + 1, _, ?_, by omega, by rw [HST.out]; exact HM3.out, by simp [hgs], fun x hx => by simp [hLl x hx]⟩
            first | (congr 1; done) | (congr 1; unfold wrap64; omega)
          · omega
        · have hi' : ¬ ((i : Int) < (ms.length : Int)) := by omega
          have hie : i = ms.length := by omega
          clear hgs
          go_wp2_with fail
          simp [bodyPost, results, Try.results33, go_sem]
          exact ⟨_, by rw [HFI.out, sidesL_len, ← hie]; exact hM, fun a b h => hLl _ h⟩
--## d
end Go.Proofs.Ytbhbdpcefgledaa
