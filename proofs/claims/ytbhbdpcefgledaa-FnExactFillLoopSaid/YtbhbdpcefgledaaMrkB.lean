/- Contracts: lists of marks are valid. -/
import Derived.Test.YtbhbdpcefgledaaMrkA
import Derived.Test.YtbhbdpcefgledaaLstG
namespace Go.Proofs.Ytbhbdpcefgledaa
--## d
open Go.RowKit Go.Mem
set_option linter.unusedSimpArgs false
set_option linter.unusedVariables false
set_option maxRecDepth 20000
--## d
def rM (ms : List (Int × Int)) : List (List Value) := ms.map fun m => [.int .i16 m.1, .int .i16 m.2]
--## d
theorem rM_len {ms : List (Int × Int)} : (rM ms).length = ms.length := by simp [rM]
--## d
theorem rM_get {ms : List (Int × Int)} {i : Nat} {m : Int × Int} (h : ms[i]? = some m) : (rM ms)[i]? = some [.int .i16 m.1, .int .i16 m.2] := by simp [rM, h]
--## d
def allM (ms : List (Int × Int)) : Bool := ms.all fun m => okM m.1 m.2
--## d
theorem allM_take {ms : List (Int × Int)} {i : Nat} {m : Int × Int} (hm : ms[i]? = some m) (h : allM (ms.take i) = true) : allM (ms.take (i + 1)) = okM m.1 m.2 := by
  have hi : i < ms.length := (List.getElem?_eq_some_iff.mp hm).1
  have he : ms[i] = m := (List.getElem?_eq_some_iff.mp hm).2
  unfold allM at *
  rw [List.take_succ_eq_append_getElem hi, List.all_append, h, he]; simp
--## d
theorem allM_bad {ms : List (Int × Int)} {i : Nat} {m : Int × Int} (hm : ms[i]? = some m) (h : okM m.1 m.2 = false) : allM ms = false := by
  unfold allM
  rw [List.all_eq_false]
  exact ⟨m, List.mem_of_getElem? hm, by simp [h]⟩
--## d
set_option maxRecDepth 20000 in
set_option maxHeartbeats 4000000 in
theorem indexFuncM (v : Value) (ms : List (Int × Int)) (w : World) (hP : Rls 2 w v (rM ms)) (hn : ms.length ≤ 1048576) :
    Calls Try.prog 80 #[v, .func (.func 60) #[] #[]] w (Gives (fun u => ∃ k : Int, u = .int .i64 k ∧ decide (0 ≤ k) = !allM ms) w) := by
  have hP' := hP
  obtain ⟨a, c, rfl, _⟩ := hP
  rw [rM_len] at *
  go_enter Try.func80, Try.ntmps80
  go_wp2_with fail
  go_loopg [8] ms.length (fun k s8 wr => ∃ (i : Nat), s8 = .int .i64 i ∧ i + k = ms.length ∧ allM (ms.take i) = true ∧ Below w.heap.size w wr)
  · exact ⟨0, rfl, by omega, rfl, Below.refl _ _⟩
  · obtain ⟨i, rfl, hik, hr, HB⟩ := hrel
    have B : Aside (i + gk = ms.length ∧ allM (ms.take i) = true ∧ Below w.heap.size w wr ∧ ms.length ≤ 1048576) := ⟨hik, hr, HB, hn⟩
    by_cases hi : i < ms.length
    · obtain ⟨m, hm⟩ : ∃ m, ms[i]? = some m := ⟨ms[i], List.getElem?_eq_getElem hi⟩
      obtain ⟨b, c', e0, hbl, hcells⟩ := (hP'.below HB).at (rM_get hm)
      rw [rM_len] at e0
      cases e0
      have hi' : (i : Int) < (ms.length : Int) := by omega
      have C : Aside ((b.add (i * 2)).block < wr.heap.size ∧ ∀ k x, [Value.int .i16 m.1, .int .i16 m.2][k]? = some x → wr.cell? ((b.add (i * 2)).add k) = some x) := ⟨hbl, hcells⟩
      have P0 : Aside (ms[i]? = some m) := hm
      clear hcells hbl hP' hm hik hr HB
      have H1 : Aside (∀ w, Calls Try.prog 60 #[mk m.1 m.2] w (Gives (isB (!okM m.1 m.2)) w)) := validMarks1A m.1 m.2
      cases hq : okM m.1 m.2
      all_goals
        rw [hq] at H1
        have HQ : Aside (okM m.1 m.2 = _) := hq
        clear hq
        go_wp2_with (first
          | (refine wpList_idxR rfl rfl (by kernel_rfl) (by kernel_rfl) rfl rfl (Int.natCast_nonneg _) hi' ?_; simp only [Int.toNat_natCast])
          | (refine wpList_rowR rfl rfl (n := 2) (by kernel_rfl) rfl rfl C.out.2 ?_)
          | (go_at_call 60; refine (H1.out _).mono ?_; rintro e w' ⟨_, rfl, rfl, hb⟩; have HB1 := Lib.hid hb; clear hb))
      · simp [bodyPost, results, Try.results80, go_sem]
        exact ⟨_, rfl, ⟨_, rfl, by rw [allM_bad P0.out HQ.out]; simp⟩, below_step HB1.out B.out.2.2.1⟩
      · obtain ⟨hik, hr, HB, hn'⟩ := B.out
        go_roundg (gk - 1)
        · refine ⟨i + 1, ?_, by omega, by rw [allM_take P0.out hr]; exact HQ.out, below_step HB1.out HB⟩
          first
            | (congr 1; done)
            | (congr 1; unfold wrap64; omega)
        · omega
    · have hi' : ¬ ((i : Int) < (ms.length : Int)) := by omega
      have hie : i = ms.length := by omega
      subst hie
      clear hP'
      go_wp2_with fail
      simp [bodyPost, results, Try.results80, go_sem]
      rw [List.take_length] at hr
      exact ⟨_, rfl, ⟨_, rfl, by rw [hr]; rfl⟩, HB⟩
--## d
set_option maxHeartbeats 4000000 in
theorem containsFuncM (v : Value) (ms : List (Int × Int)) (w : World) (hP : Rls 2 w v (rM ms)) (hn : ms.length ≤ 1048576) :
    Calls Try.prog 59 #[v, .func (.func 60) #[] #[]] w (Gives (isB (!allM ms)) w) := by
  go_enter Try.func59, Try.ntmps59
  go_wp2_with (first | (go_at_call 80; refine (indexFuncM _ ms _ hP hn).mono ?_; rintro e w' ⟨_, rfl, ⟨k, rfl, hk⟩, hb⟩; have HB1 := Lib.hid hb; clear hb))
  all_goals
    simp [bodyPost, results, Try.results59, go_sem, *]
    exact ⟨_, rfl, by rw [← hk]; simp [isB], HB1.out⟩
--## d
set_option maxHeartbeats 4000000 in
theorem validMarksA (v : Value) (ms : List (Int × Int)) (w : World) (hP : Rls 2 w v (rM ms)) (hn : ms.length ≤ 1048576) :
    Calls Try.prog 32 #[v] w (Gives (isB (allM ms)) w) := by
  go_enter Try.func32, Try.ntmps32
  go_wp2_with (first | (go_at_call 59; refine (containsFuncM _ ms _ hP hn).mono ?_; rintro e w' ⟨_, rfl, rfl, hb⟩; have HB1 := Lib.hid hb; clear hb))
  all_goals
    simp [bodyPost, results, Try.results32, go_sem, *]
    exact ⟨_, rfl, by simp [isB], HB1.out⟩
--## d
end Go.Proofs.Ytbhbdpcefgledaa
