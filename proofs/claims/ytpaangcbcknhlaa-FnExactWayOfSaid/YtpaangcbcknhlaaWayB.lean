/- Contracts: orders of strokes are checked (both sides). -/
import Derived.Test.YtpaangcbcknhlaaWayA
import Derived.Test.YtpaangcbcknhlaaLskC
import Derived.Test.YtpaangcbcknhlaaMrkF
namespace Go.Proofs.Ytpaangcbcknhlaa
--## d
open Go.RowKit Go.Mem
set_option linter.unusedSimpArgs false
set_option linter.unusedVariables false
set_option maxRecDepth 20000
--## d
theorem allM_one (a b : Int) : allM [(a, b)] = okM a b := by simp [allM]
--## d
def goodO (n : Nat) (os : List Int) : Bool := os.all (fun z => decide (0 ≤ z) && decide (z < (n : Int))) && decide os.Nodup
--## d
theorem goodO_nil (n : Nat) : goodO n [] = true := by simp [goodO]
--## d
theorem goodO_snoc (n : Nat) (os : List Int) (z : Int) (h : goodO n os = true) : goodO n (os ++ [z]) = (decide (0 ≤ z) && decide (z < (n : Int)) && !os.contains z) := by
  unfold goodO at *
  simp only [Bool.and_eq_true, decide_eq_true_eq] at h
  rw [List.all_append, h.1]
  by_cases hz : z ∈ os
  · have h2 : ¬ (os ++ [z]).Nodup := fun hn => by
      rw [List.nodup_append] at hn
      exact hn.2.2 z hz z (by simp) rfl
    simp [h2, hz]
  · have h2 : (os ++ [z]).Nodup := by
      rw [List.nodup_append]
      exact ⟨h.2, by simp, fun a ha b hb e => hz (by simp at hb; subst hb; subst e; exact ha)⟩
    simp [h2, hz]
--## d
theorem goodO_take {n : Nat} {os : List Int} {i : Nat} {z : Int} (hz : os[i]? = some z) (h : goodO n (os.take i) = true) : goodO n (os.take (i + 1)) = (decide (0 ≤ z) && decide (z < (n : Int)) && !(os.take i).contains z) := by
  have hi := (List.getElem?_eq_some_iff.1 hz).1
  rw [List.take_succ_eq_append_getElem hi, (List.getElem?_eq_some_iff.1 hz).2]
  exact goodO_snoc n _ z h
--## d
theorem goodO_sub {n : Nat} {os : List Int} (i : Nat) (h : goodO n os = true) : goodO n (os.take i) = true := by
  unfold goodO at *
  simp only [Bool.and_eq_true, decide_eq_true_eq, List.all_eq_true] at *
  exact ⟨fun x hx => h.1 x (List.mem_of_mem_take hx), h.2.sublist (List.take_sublist _ _)⟩
--## d
theorem goodO_bad {n : Nat} {os : List Int} {i : Nat} {z : Int} (hz : os[i]? = some z) (h : goodO n (os.take i) = true) (hb : (decide (0 ≤ z) && decide (z < (n : Int)) && !(os.take i).contains z) = false) : goodO n os = false := by
  cases hg : goodO n os
  · rfl
  · have := goodO_sub (i + 1) hg
    rw [goodO_take hz h, hb] at this
    cases this
--## d
theorem goodO_all {n : Nat} {os : List Int} {i : Nat} (hi : os.length ≤ i) (h : goodO n (os.take i) = true) : goodO n os = true := by rw [List.take_of_length_le hi] at h; exact h
--## d
theorem goodO_at {n : Nat} {os : List Int} {i : Nat} {z : Int} (hz : os[i]? = some z) (h : goodO n os = true) : 0 ≤ z ∧ z < (n : Int) := by
  unfold goodO at h
  simp only [Bool.and_eq_true, decide_eq_true_eq, List.all_eq_true] at h
  exact h.1 z (List.mem_of_getElem? hz)
--## d
/-- what has been found, as cells -/
def fnd (n : Nat) (l : List Int) : List Value := (List.range n).map fun j : Nat => .bool (l.contains (j : Int))
--## d
theorem fnd_len (n : Nat) (l : List Int) : (fnd n l).length = n := by simp [fnd]
--## d
theorem fnd_get {n j : Nat} (l : List Int) (h : j < n) : (fnd n l)[j]? = some (.bool (l.contains (j : Int))) := by
  unfold fnd
  rw [List.getElem?_map, List.getElem?_range h]
  rfl
--## d
theorem fnd_nil (n : Nat) : (madeCells #[.bool false] n).toList = fnd n [] := by
  apply List.ext_getElem?
  intro j
  by_cases hj : j < n
  · rw [fnd_get _ hj, Array.getElem?_toList]
    simp [madeCells, hj, Nat.mod_one]
  · rw [List.getElem?_eq_none (by simp [size_madeCells]; omega), List.getElem?_eq_none (by rw [fnd_len]; omega)]
--## d
theorem fnd_snoc {n j : Nat} (l : List Int) (h : j < n) : splice (fnd n l) j [.bool true] = fnd n (l ++ [(j : Int)]) := by
  apply List.ext_getElem?
  intro q
  by_cases hq : q < n
  · rw [splice_get _ _ _ _ (by simp [fnd_len]; omega), fnd_get _ hq, fnd_get _ hq]
    by_cases hqj : q = j
    · subst hqj
      rw [if_pos (by simp)]
      simp
    · rw [if_neg (by simp; omega)]
      have : ((q : Int) == (j : Int)) = false := by simp; omega
      simp [List.contains_eq_mem, List.mem_append]
      omega
  · rw [List.getElem?_eq_none (by rw [splice_length, fnd_len]; omega), List.getElem?_eq_none (by rw [fnd_len]; omega)]
--## d
def codeO (ss : List S5) (os : List Int) (ts : List Bool) (p : Int × Int) : Int := if codeK ss [p] = 0 then (if os.length = ss.length ∧ ts.length = ss.length ∧ goodO ss.length os = true then 0 else 2) else codeK ss [p]
--## d
theorem take_snocZ {os : List Int} {i : Nat} {z : Int} (hz : os[i]? = some z) : os.take (i + 1) = os.take i ++ [z] := by
  have hi := (List.getElem?_eq_some_iff.1 hz).1
  rw [List.take_succ_eq_append_getElem hi, (List.getElem?_eq_some_iff.1 hz).2]
--## d
set_option maxHeartbeats 4000000 in
theorem isOrderI (v : Value) (os : List Int) (n : Nat) (w : World) (hP : Rls 1 w v (rJ os)) (hn : os.length ≤ 1048576) (hm : n ≤ 1048576) :
    Calls Try.prog 140 #[v, .int .i64 n] w (Gives (isB (goodO n os && decide (os.length = n))) w) := by
  have hP' := hP
  obtain ⟨a, c, rfl, _⟩ := hP
  obtain ⟨g, hg⟩ : ∃ g, g = w.heap.size := ⟨_, rfl⟩
  have hmk := makeBoolS n hm w
  rw [← hg] at hmk
  rw [rJ_len] at *
  have A : Aside (os.length ≤ 1048576 ∧ n ≤ 1048576 ∧ g = w.heap.size) := ⟨hn, hm, hg⟩
  have hM0 := (Mem.start w).alloc (madeCells #[.bool false] n) 4
  rw [← hg, fnd_nil] at hM0
  have M0 : Aside (Mem w (w.alloc (.cells (madeCells #[.bool false] n) 4)) [] [(g, fnd n [])]) := hM0
  have h47 : Aside ((Try.prog.info? 4).map (·.size) = some 1) := (by kernel_rfl : (Try.prog.info? 4).map (·.size) = some 1)
  clear hM0 hg
  go_enter Try.func140, Try.ntmps140
  go_wp2_with fail
  go_loopg [12] os.length (fun k s12 wr => ∃ (i : Nat), s12 = .int .i64 i ∧ i + k = os.length ∧ goodO n (os.take i) = true ∧ Mem w wr [] [(g, fnd n (os.take i))])
  · exact ⟨0, rfl, by omega, goodO_nil n, M0.out⟩
  · obtain ⟨i, rfl, hik, hr, HM⟩ := hrel
    have B : Aside (i + gk = os.length ∧ goodO n (os.take i) = true ∧ Mem w wr [] [(g, fnd n (os.take i))]) := ⟨hik, hr, HM⟩
    by_cases hi : i < os.length
    · obtain ⟨z, hz⟩ : ∃ z, os[i]? = some z := ⟨os[i], List.getElem?_eq_getElem hi⟩
      obtain ⟨b, c', e0, hbl, hcells⟩ := (hP'.below HM.below).at (rJ_get hz)
      rw [rJ_len] at e0
      cases e0
      have hi' : (i : Int) < (os.length : Int) := by omega
      have hc0 : wr.cell? (b.add i) = some (.int .i64 z) := by have := hcells 0 _ rfl; rw [Nat.mul_one] at this; exact this
      have P0 : Aside (os[i]? = some z) := hz
      clear hcells hbl hP' hz hik hr HM hmk
      by_cases h0 : z < 0
      · go_wp2_with (refine wpList_idxR rfl rfl (by kernel_rfl) (by kernel_rfl) rfl rfl (Int.natCast_nonneg _) hi' ?_; simp only [Int.toNat_natCast, Nat.mul_one])
        simp [bodyPost, results, Try.results140, go_sem]
        exact ⟨_, rfl, by rw [goodO_bad P0.out B.out.2.1 (by simp; omega)]; rfl, B.out.2.2.below⟩
      · by_cases h1 : (n : Int) ≤ z
        · go_wp2_with (refine wpList_idxR rfl rfl (by kernel_rfl) (by kernel_rfl) rfl rfl (Int.natCast_nonneg _) hi' ?_; simp only [Int.toNat_natCast, Nat.mul_one])
          simp [bodyPost, results, Try.results140, go_sem]
          exact ⟨_, rfl, by rw [goodO_bad P0.out B.out.2.1 (by simp; omega)]; rfl, B.out.2.2.below⟩
        · obtain ⟨j, rfl⟩ : ∃ j : Nat, z = (j : Int) := ⟨z.toNat, by omega⟩
          have hj : j < n := by omega
          have hj' : (j : Int) < (n : Int) := by omega
          have hj0 : (0 : Int) ≤ (j : Int) := Int.natCast_nonneg _
          obtain ⟨q1, q2⟩ := Mem.cellAt B.out.2.2 j _ (fnd_get (os.take i) hj)
          cases hq : (os.take i).contains (j : Int)
          · rw [hq] at q1
            have HQ : Aside ((os.take i).contains (j : Int) = false) := hq
            clear hq
            go_wp2_with (first
              | (refine wpList_idxR rfl rfl (by kernel_rfl) (by kernel_rfl) rfl rfl (Int.natCast_nonneg _) hi' ?_; simp only [Int.toNat_natCast, Nat.mul_one])
              | (refine wpList_store (b := g) (off := j) (cs := fnd n (os.take i)) (vs := [.bool true]) B.out.2.2 0 rfl rfl rfl rfl rfl rfl h47.out rfl (Nat.ble_eq_true_of_le (by rw [fnd_len]; simp only [List.length_cons, List.length_nil]; omega)) ?_; intro w3 hM3; have hM4 : Aside (Mem w w3 [] [(g, splice (fnd n (os.take i)) j [.bool true])]) := hM3; clear hM3))
            obtain ⟨hik, hr, HM⟩ := B.out
            go_roundg (gk - 1)
            · refine ⟨i + 1, ?_, by omega, by rw [goodO_take P0.out hr, HQ.out]; simp; omega, by rw [take_snocZ P0.out, ← fnd_snoc _ hj]; exact hM4.out⟩
              first
            | (congr 1; done)
            | (congr 1; have := A.out.1; unfold wrap64; omega)
            · omega
          · rw [hq] at q1
            have HQ : Aside ((os.take i).contains (j : Int) = true) := hq
            clear hq
            go_wp2_with (refine wpList_idxR rfl rfl (by kernel_rfl) (by kernel_rfl) rfl rfl (Int.natCast_nonneg _) hi' ?_; simp only [Int.toNat_natCast, Nat.mul_one])
            simp [bodyPost, results, Try.results140, go_sem]
            exact ⟨_, rfl, by rw [goodO_bad P0.out B.out.2.1 (by rw [HQ.out]; simp)]; rfl, B.out.2.2.below⟩
    · have hi' : ¬ ((i : Int) < (os.length : Int)) := by omega
      clear hP' hmk
      by_cases hl : (os.length : Int) = (n : Int)
      all_goals
        go_wp2_with fail
        simp [bodyPost, results, Try.results140, go_sem]
        exact ⟨_, rfl, by (rw [goodO_all (by omega) hr]; simp only [isB, Bool.true_and]; congr 1; rw [Bool.eq_iff_iff]; simp; omega), HM.below⟩
--## d
end Go.Proofs.Ytpaangcbcknhlaa
