/- A sheet as an argument of a law. -/
import Derived.Test.YteckjpdfecgljaaShtC
import Derived.Test.YteckjpdfecgljaaMrkO
namespace Go.Proofs.Yteckjpdfecgljaa
--## d
open Go.ChangeShapes Go.WideShapes Go.ChangeAt Go.RowKit Go.Flo Go.Mem
set_option linter.unusedSimpArgs false
set_option linter.unusedVariables false
set_option maxRecDepth 20000
--## d
def Sh (zs : List Int) : Prop := zs.length = 64 ∧ ∀ z ∈ zs, 0 ≤ z ∧ z < 18446744073709551616
--## d
theorem row_arr : row Try.prog 23 64 = true := by kernel_rfl
--## d
theorem u64_wf {x : Int} (h : (Lit.int .u64 x).wf = true) : 0 ≤ x ∧ x < 18446744073709551616 := by
  simp [Lit.wf, IntKind.min, IntKind.max, IntKind.signed, IntKind.bits] at h
  omega
--## d
section
--## d
variable {H : Type} {enc : TypeId × Value → H} {w : World} {base : Nat} {spare : Nat → Bool} {held : Bool}
--## d
theorem open_sheet {r : Reach} {b0 : Nat} {v : Value} {d : DataW H} {ps : List MemPlace} (hval : Value.okWide Try.prog w r b0 23 v) (hd : DataW.Trod enc Try.prog w base spare held 23 v d ps) :
    ∃ zs : List Int, v = .agg (shA zs) ∧ Sh zs := by
  simp only [Value.okWide, Try.underlying23] at hval
  obtain ⟨cs, rfl, hsz, _⟩ := hval
  have hs64 : cs.size = 64 := hsz.trans (by kernel_rfl)
  obtain ⟨fuel, hf⟩ := hd
  obtain ⟨n, hn⟩ := trod_arrayN Try.underlying23 hf
  have hce : Try.prog.cellsOf 22 = 1 := by kernel_rfl
  have each : ∀ i, i < 64 → ∃ z : Int, cs.toList[i]? = some (.int .u64 z) ∧ (0 ≤ z ∧ z < 18446744073709551616) := by
    intro i hi
    obtain ⟨y, hy⟩ := hn i hi
    rw [hce, Nat.mul_one] at hy
    have hc : (Value.agg cs).cells.toList = cs.toList := rfl
    rw [hc] at hy
    obtain ⟨c, hcc⟩ : ∃ c, cs.toList[i]? = some c := ⟨cs.toList[i]'(by simp [hs64]; omega), List.getElem?_eq_getElem _⟩
    have hd1 : (cs.toList.drop i).take 1 = [c] := by
      have hlt : i < cs.toList.length := (List.getElem?_eq_some_iff.1 hcc).1
      rw [List.drop_eq_getElem_cons hlt, (List.getElem?_eq_some_iff.1 hcc).2]
      rfl
    rw [hd1] at hy
    obtain ⟨z, rfl, hz⟩ := cell_int Try.underlying22 hy
    exact ⟨z, hcc, u64_wf hz⟩
  obtain ⟨F, hF⟩ : ∃ F : Nat → Int, ∀ i, i < 64 → cs.toList[i]? = some (.int .u64 (F i)) ∧ (0 ≤ F i ∧ F i < 18446744073709551616) :=
    ⟨fun i => if hi : i < 64 then (each i hi).choose else 0, fun i hi => by simp only [dif_pos hi]; exact (each i hi).choose_spec⟩
  refine ⟨(List.range 64).map F, ?_, by simp, fun z hz => ?_⟩
  · congr 1
    apply Array.ext'
    apply List.ext_getElem?
    intro j
    have e : (shA ((List.range 64).map F)).toList = rU ((List.range 64).map F) := rfl
    rw [e]
    unfold rU
    rw [List.map_map, List.getElem?_map]
    by_cases hj : j < 64
    · rw [(hF j hj).1, List.getElem?_range hj]
      rfl
    · rw [List.getElem?_eq_none (by simp [hs64]; omega), List.getElem?_eq_none (by simp; omega)]
      rfl
  · obtain ⟨i, hi, rfl⟩ := List.mem_map.1 hz
    exact (hF i (by simpa using hi)).2
--## d
end
--## d
end Go.Proofs.Yteckjpdfecgljaa
