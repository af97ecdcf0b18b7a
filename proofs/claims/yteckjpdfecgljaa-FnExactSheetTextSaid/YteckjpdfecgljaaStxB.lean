/- Contracts: bytes written into a builder. -/
import Derived.Test.YteckjpdfecgljaaStxA
import Derived.Test.YteckjpdfecgljaaShlf
import Derived.Lib.Builder
import Derived.WalkKit
import Derived.BigCall
namespace Go.Proofs.Yteckjpdfecgljaa
--## d
open Go.ChangeShapes Go.WideShapes Go.ChangeAt Go.RowKit Go.Flo Go.Mem
set_option linter.unusedSimpArgs false
set_option linter.unusedVariables false
set_option maxRecDepth 20000
--## d
def BldS (B b : Nat) (l : List UInt8) (w : World) : Prop := Lib.IsBuilder 33 5 B b (Lib.byteCells l) w
--## d
set_option maxHeartbeats 1000000 in
theorem bldCheck (B b : Nat) (bs : List Value) (w : World) (h : Lib.IsBuilder 33 5 B b bs w) :
    Calls Try.prog 10 #[.pointer (some ⟨b, 0, none⟩)] w fun e w' => e = .returned (.tuple #[]) ∧ Lib.BuilderAt 33 5 B b (.pointer (some ⟨b, 0, none⟩)) bs w' ∧ Below B w w' := by
  obtain ⟨j, hj, hjs⟩ := Option.map_eq_some_iff.1 Try.Builder_Extra_169.toX72.sizeBuilder
  rcases h with h | h
  · have q0 := h.cell0
    have q1 := h.frozen0
    have q2 := h.shape
    have K : Aside (Lib.BuilderAt 33 5 B b (.pointer none) bs w) := h
    clear h
    go_enter Try.func10, Try.ntmps10
    go_wp2_with fail
    rw [Lib.run_to_unsafe w ⟨b, 0, none⟩ Try.underlying30 Try.underlying40 hj (by rw [hjs]; decide) q2 (Nat.zero_lt_succ 1)]
    simp only [Result.andThen]
    rw [Oper.upon_value]
    go_wp2_with fail
    rw [run_callFunc_extern Try.func11 (by kernel_rfl) (by kernel_rfl) (by kernel_rfl) (e := Extern.AbiNoEscape.same) (by kernel_rfl)]
    rw [Lib.run_noEscape]
    simp only [Result.andThen]
    rw [Oper.upon_value]
    go_wp2_with fail
    rw [Lib.run_from_unsafe w ⟨b, 0, none⟩ Try.underlying40 Try.underlying30 hj q2 Try.Builder_Extra_169.toX72.liesBuilder]
    simp only [Result.andThen]
    rw [Oper.upon_value]
    go_wp2_with fail
    simp [bodyPost, results, Try.results10, go_sem]
    exact ⟨K.out.used _, (Below.refl B w).setCell (p := ⟨b, 0, none⟩) K.out.1 _⟩
  · have q0 := h.cell0
    have K : Aside (Lib.BuilderAt 33 5 B b (.pointer (some ⟨b, 0, none⟩)) bs w) := h
    clear h
    go_enter Try.func10, Try.ntmps10
    go_wp2_with fail
    rw [Lib.run_neq_ptr_same w _ Try.underlying30 hj]
    go_wp2_with fail
    simp [bodyPost, results, Try.results10, go_sem]
    exact ⟨K.out, Below.refl _ _⟩
--## d
theorem one9 (w : World) (x : Value) (t : TypeId) : ∀ (j : Nat) (u : Value), [x][j]? = some u → (w.alloc (.cells #[x] t)).cell? ((⟨w.heap.size, 0, none⟩ : Addr).add j) = some u := by
  intro j u h
  cases j with
  | succ j => simp at h
  | zero =>
    simp at h; subst h
    rw [Addr.add_mid]
    exact World.cell?_alloc_at _ _ _ _ rfl
--## d
theorem u8_one9 (c : Int) : ∀ u ∈ [Value.int .u8 c], u.oneCell' = true := by intro u hu; simp at hu; subst hu; rfl
--## d
theorem infoU8 : (Try.prog.info? 5).map (fun i => (i.zero, i.size, i.bytes)) = some (some (.int .u8 0), 1, 1) := by kernel_rfl
--## d
set_option maxHeartbeats 2000000 in
theorem writeB (B b : Nat) (bs : List Value) (c : Int) (w : World) (h : Lib.IsBuilder 33 5 B b bs w) (hlen : bs.length + 1 ≤ 140737488355328) (hBw : B ≤ w.heap.size) :
    Calls Try.prog 8 #[.pointer (some ⟨b, 0, none⟩), .int .u8 c] w fun e w' => e = .returned .nilIface ∧ Lib.BuilderAt 33 5 B b (.pointer (some ⟨b, 0, none⟩)) (bs ++ [.int .u8 c]) w' ∧ Below B w w' := by
  obtain ⟨i0, hi0, hz0, hz1, hz2⟩ := info_parts infoU8
  have HC := Lib.hid (bldCheck B b bs w h)
  clear h
  go_enter Try.func8, Try.ntmps8
  go_wp2_with (first
    | (go_at_call 10; refine HC.out.mono ?_; rintro e w1 ⟨rfl, h1, hb1⟩; have H1 := Lib.hid h1; have HB1 := Lib.hid hb1; obtain ⟨hB, v, hbk, hown, hne⟩ := h1; have c0 : w1.cell? ⟨b, 0, none⟩ = some (.pointer (some ⟨b, 0, none⟩)) := (by rw [Lib.cell_of_heap hbk]; rfl); have c1 : w1.cell? ⟨b, 1, none⟩ = some v := (by rw [Lib.cell_of_heap hbk]; rfl); have hs1 := hb1.size; have HK : Aside (w1.heap[b]? = some (.cells #[.pointer (some ⟨b, 0, none⟩), v] 33 (0, 0)) ∧ v.ownBlock ≠ some b ∧ B ≤ b) := ⟨hbk, hne, hB⟩; have hlt : b < w1.heap.size := Lib.BuilderAt.lt H1.out; clear hb1 hbk hne hB)
    | (at_builtin; refine wpList_append_own _ rfl _ _ 31 rfl B 5 i0 (.int .u8 0) 1 1 Try.underlying31 ‹_› hz0 hz1 hz2 rfl (by decide) _ _ _ rfl (hown.alloc _) ⟨w1.heap.size, 0, none⟩ 1 1 [.int .u8 c] rfl rfl (one9 _ _ _) (u8_one9 _) (by unfold maxLen; omega) (by omega) (by simp; omega) ?_; intro v' w2 hown2 hg2 _; have HO2 := Lib.hid hown2; have HG2 := Lib.hid hg2; have hb2 : w2.heap[b]? = some (.cells #[.pointer (some ⟨b, 0, none⟩), v] 33 (0, 0)) := (by rw [hg2.block b (by simp; omega) (fun e => HK.out.2.1 e.symm), Lib.alloc_old w1 _ b hlt]; exact HK.out.1); have HB2 := Lib.hid hb2; have d0 : w2.cell? ⟨b, 0, none⟩ = some (.pointer (some ⟨b, 0, none⟩)) := (by rw [Lib.cell_of_heap hb2]; rfl); have d1 : w2.cell? ⟨b, 1, none⟩ = some v := (by rw [Lib.cell_of_heap hb2]; rfl); have f1 : w2.frozen? ⟨b, 1, none⟩ = false := Lib.frozen_of_heap hb2 1; obtain ⟨g, cap, rfl⟩ : ∃ g cap, v' = .slice (some ⟨g, 0, none⟩) (bs.length + 1) cap := (by rcases hown2.2 with ⟨_, h0⟩ | ⟨g, cap, cur, hv, _⟩; omega; exact ⟨g, cap, hv⟩); clear hb2 hown2 hg2))
  simp [bodyPost, results, Try.results8, go_sem]
  refine ⟨?_, ?_⟩
  · exact Lib.BuilderAt.put (T := 33) (e := 5) HK.out.2.2 HB2.out (bs' := bs ++ [.int .u8 c]) (by simpa using HO2.out) Try.Builder_Extra_169.neB5
  · exact ((HB1.out.alloc (by omega) _).grown HG2.out (by simp; omega) (fun k hk => (hown.lt k hk).1)).setCell (p := ⟨b, 1, none⟩) HK.out.2.2 _
--## d
end Go.Proofs.Yteckjpdfecgljaa
