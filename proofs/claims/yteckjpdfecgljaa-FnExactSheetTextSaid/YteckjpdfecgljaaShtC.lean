/- Contracts: DrawStrokes, both sides; sheets copied, compared, as arguments. -/
import Derived.Test.YteckjpdfecgljaaShtB
import Derived.Test.YteckjpdfecgljaaOpn
import Derived.Test.YteckjpdfecgljaaLskC
namespace Go.Proofs.Yteckjpdfecgljaa
--## d
open Go.ChangeShapes Go.WideShapes Go.ChangeAt Go.RowKit Go.Flo Go.Mem
set_option linter.unusedSimpArgs false
set_option linter.unusedVariables false
set_option maxRecDepth 20000
--## d
abbrev shA (zs : List Int) : Array Value := (rU zs).toArray
--## d
def zero64 : List Int := List.replicate 64 0
--## d
theorem sub_len : ∀ cs : List Value, Go.Mem.sub cs 0 cs.length = cs
  | [] => rfl
  | c :: cs => by
    show c :: Go.Mem.sub cs 0 cs.length = c :: cs
    rw [sub_len cs]
--## d
theorem sub_all {cs : List Value} {n : Nat} (h : cs.length = n) : Go.Mem.sub cs 0 n = cs := by
  subst h
  exact sub_len cs
--## d
theorem oneU (zs : List Int) : (rU zs).all (·.oneCell') = true := by
  rw [List.all_eq_true]
  intro x hx
  unfold rU at hx
  obtain ⟨z, _, rfl⟩ := List.mem_map.1 hx
  rfl
--## d
theorem splice_all {cs vs : List Value} (h : cs.length = vs.length) : splice cs 0 vs = vs := by
  apply List.ext_getElem?
  intro j
  rw [splice_get _ _ _ _ (by omega)]
  by_cases hj : j < vs.length
  · rw [if_pos (by omega)]; rfl
  · rw [if_neg (by omega), List.getElem?_eq_none (by omega), List.getElem?_eq_none (by omega)]
--## d
theorem zero_sheet : ∀ w : World, (zeroValue 25).run Try.prog w = .ok (.agg (shA zero64)) w := fun _ => by kernel_rfl
--## d
theorem build_sheet : ∀ w : World, (Instr.build 25 #[]).run Try.prog w = .ok (.agg (shA zero64)) w := fun _ => by kernel_rfl
--## d
theorem row_sheet : row Try.prog 25 64 = true := by kernel_rfl
--## d
theorem info_sheet : (Try.prog.info? 25).map (·.size) = some 64 := by kernel_rfl
--## d
set_option maxHeartbeats 4000000 in
theorem toSheetA (zs : List Int) (hl : zs.length = 64) (w : World) : Calls Try.prog 5 #[.agg (shA zs)] w (Gives (fun v => v = .agg (shA zs)) w) := by
  have HM := Mem.start w
  have tk1 : True := trivial
  have hz := zero_sheet
  have h46 : Aside ((Try.prog.info? 22).map (·.size) = some 1) := (by kernel_rfl : (Try.prog.info? 22).map (·.size) = some 1)
  go_enter Try.func5, Try.ntmps5
  go_wp2_with (first | (refine Mem.wpList_box HM rfl rfl rfl rfl ?_; clear HM; intro p1 W1 hb1 HM) | (clear tk1; refine Mem.wpList_alloc HM rfl rfl hz rfl ?_; clear HM; intro p2 W2 hb2 HM) | (refine Mem.wpList_alloc HM rfl rfl hz rfl ?_; clear HM; intro p3 W3 hb3 HM))
  have H0 : Aside (Mem w W3 [] [(p3, rU zero64), (p2, rU zero64), (p1, rU zs)]) := HM
  clear HM hz
  go_loopg [4] 64 (fun k s4 wr => ∃ (i : Nat) (cs : List Value), s4 = .int .i64 i ∧ i + k = 64 ∧ cs.length = 64 ∧ cs.take i = (rU zs).take i ∧ Mem w wr [] [(p3, cs), (p2, rU zero64), (p1, rU zs)])
  · exact ⟨0, rU zero64, rfl, by omega, by rw [rU_len]; rfl, rfl, H0.out⟩
  · obtain ⟨i, cs, rfl, hik, hcl, htk, hM⟩ := hrel
    have B : Aside (i + gk = 64 ∧ cs.length = 64 ∧ cs.take i = (rU zs).take i ∧ Mem w wr [] [(p3, cs), (p2, rU zero64), (p1, rU zs)]) := ⟨hik, hcl, htk, hM⟩
    by_cases hi : i < 64
    · obtain ⟨z, hz⟩ : ∃ z, zs[i]? = some z := ⟨zs[i]'(by omega), List.getElem?_eq_getElem _⟩
      have hi' : (i : Int) < 64 := by omega
      have hi0 : (0 : Int) ≤ (i : Int) := Int.natCast_nonneg _
      obtain ⟨q1, _⟩ := Mem.cellIn hM (.tail _ (.tail _ (.head _))) i _ (rU_get hz)
      have P0 : Aside (zs[i]? = some z) := hz
      clear hz hik hcl htk hM
      go_wp2_with (refine wpList_store (b := p3) (off := i) (cs := cs) (vs := [.int .u64 z]) B.out.2.2.2 0 rfl rfl rfl rfl rfl rfl h46.out rfl (Nat.ble_eq_true_of_le (by rw [B.out.2.1]; simp only [List.length_cons, List.length_nil]; omega)) ?_; intro w3 hM3; have HM3 : Aside (Mem w w3 [] [(p3, splice cs i [.int .u64 z]), (p2, rU zero64), (p1, rU zs)]) := hM3; clear hM3)
      obtain ⟨hik, hcl, htk, hM⟩ := B.out
      go_roundg (gk - 1)
      · refine ⟨i + 1, _, ?_, by omega, ?_, ?_, HM3.out⟩
        · first
            | (congr 1; done)
            | (congr 1; unfold wrap64; omega)
        · rw [splice_length]; exact hcl
        · have e := splice_takeR cs [.int .u64 z] i (by simp only [List.length_cons, List.length_nil]; omega)
          simp only [List.length_cons, List.length_nil] at e
          rw [show i + 1 = i + (0 + 1) by omega, e, htk, List.take_succ_eq_append_getElem (by rw [rU_len]; omega)]
          congr 1
          have := rU_get P0.out
          rw [List.getElem?_eq_getElem (by rw [rU_len]; omega)] at this
          rw [Option.some.inj this]
      · omega
    · have hi' : ¬ ((i : Int) < 64) := by omega
      have hcs : cs = rU zs := by
        rw [List.take_of_length_le (by omega), List.take_of_length_le (by rw [rU_len]; omega)] at htk
        exact htk
      subst hcs
      have HM : Mem w wr [] [(p3, rU zs), (p2, rU zero64), (p1, rU zs)] := hM
      go_wp2_with (first | (refine Mem.wpList_load_row HM 64 rfl rfl rfl row_sheet (.inl (.head _)) (sub_all (by rw [rU_len]; exact hl)) (by rw [rU_len]; exact hl) ?_) | (refine wpList_store (b := p2) (off := 0) (cs := rU zero64) (vs := rU zs) HM 1 rfl rfl rfl rfl rfl rfl (by rw [rU_len, hl]; exact info_sheet) (oneU zs) (Nat.ble_eq_true_of_le (by rw [rU_len, rU_len, hl]; decide)) ?_; intro w3 hM3))
      have HM5 : Mem w w3 [] [(p3, rU zs), (p2, rU zs), (p1, rU zs)] := by
        have h := hM3
        rw [splice_all (by rw [rU_len, rU_len, hl]; rfl)] at h
        exact h
      refine bodyPost_ret (Mem.results1 Try.results5 (Mem.fetch_row HM5 64 rfl row_sheet (.inl (.tail _ (.head _))) (sub_all (by rw [rU_len]; exact hl)) (by rw [rU_len]; exact hl))) rfl ?_
      exact ⟨_, rfl, rfl, HM5.below⟩
--## d
end Go.Proofs.Yteckjpdfecgljaa
