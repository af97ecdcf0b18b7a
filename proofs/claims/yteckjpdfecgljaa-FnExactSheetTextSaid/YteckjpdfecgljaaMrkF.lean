/- Contracts: the marks of a stroke (the program's side). -/
import Derived.Test.YteckjpdfecgljaaMrkE
import Derived.Deep.RegionLaw
import Derived.Deep.CutBlock
namespace Go.Proofs.Yteckjpdfecgljaa
--## d
open Go.RowKit Go.Mem
set_option linter.unusedSimpArgs false
set_option linter.unusedVariables false
set_option maxRecDepth 20000
--## d
@[go_sem] theorem run_max2 {P : Program} {w : World} (ts : Array TypeId) (t : TypeId) (k : IntKind) (a b : Int) : Sem.run P (Builtin.max_ ts t #[.int k a, .int k b]) w = .ok (.int k (maxF a b)) w := rfl
theorem near_m {n m w : Int} {i : Nat} (h0 : 0 ≤ n) (hn : n ≤ 1000) (hi : i < n.toNat + 1) (hm : (if n < 1 then (1 : Int) else n) = m) : 0 < m ∧ m ≤ 1000 ∧ nearF ((i : Int) * w) m = nearF ((i : Int) * w) n := by
  by_cases h : n < 1
  · have hz : n = 0 := by omega
    subst hz
    have hi0 : i = 0 := by simpa using hi
    subst hi0
    simp at hm
    subst hm
    simp [nearF]
  · rw [if_neg h] at hm
    subst hm
    exact ⟨by omega, hn, rfl⟩
--## d
theorem splice3 (cs : List Value) (o : Nat) (a b x y : Value) (h : o + 2 ≤ cs.length) : (splice (splice (splice cs o [a, b]) o [x]) (o + 1) [y]).take (o + 2) = cs.take o ++ [x, y] := by
  apply List.ext_getElem?
  intro j
  by_cases hj : j < o + 2
  · rw [List.getElem?_take_of_lt hj, splice_get _ _ _ _ (by simp [splice_length]; omega), splice_get _ _ _ _ (by simp [splice_length]; omega), splice_get _ _ _ _ (by simpa using h)]
    by_cases h1 : j < o
    · rw [if_neg (by simp; omega), if_neg (by simp; omega), if_neg (by simp; omega), List.getElem?_append_left (by simp; omega), List.getElem?_take_of_lt h1]
    · by_cases h2 : j = o
      · subst h2
        rw [if_neg (by simp only [List.length_cons, List.length_nil]; omega), if_pos (by simp), List.getElem?_append_right (by rw [List.length_take]; omega)]
        simp [Nat.min_eq_left (show j ≤ cs.length by omega)]
      · have h3 : j = o + 1 := by omega
        subst h3
        rw [if_pos (by simp), List.getElem?_append_right (by simp; omega)]
        simp [Nat.min_eq_left (show o ≤ cs.length by omega)]
  · rw [List.getElem?_eq_none (by simp [splice_length]; omega), List.getElem?_eq_none (by simp; omega)]
--## d
theorem Mem.lift {w w0 W : World} {l : Blocks} (h : Mem w0 W [] l) (hb : Below w.heap.size w w0) : Mem w W [] l :=
  ⟨below_step h.below hb, fun _ hx => (by cases hx), fun x hx => (by obtain ⟨h1, h2⟩ := h.new x hx; exact ⟨Nat.le_trans hb.size h1, h2⟩), h.apart⟩
--## d
theorem Mem.joinG {w wr w' : World} {r l : Blocks} {g : Nat} {cs : List Value} (h : Mem w wr r l) (hs : Mem wr w' [] [(g, cs)]) : Mem w w' r (l ++ [(g, cs)]) := by
  have hc := h.call hs.below
  have hg := hs.new (g, cs) (by simp)
  refine ⟨hc.below, hc.old, fun x hx => ?_, ?_⟩
  · rcases List.mem_append.1 hx with hx | hx
    · exact hc.new x hx
    · obtain rfl : x = (g, cs) := by simpa using hx
      exact ⟨Nat.le_trans h.below.size hg.1, hg.2⟩
  · rw [List.map_append, List.nodup_append]
    refine ⟨hc.apart, by simp, fun a ha b hb e => ?_⟩
    obtain ⟨x, hx, rfl⟩ := List.mem_map.1 ha
    have h1 := (h.new x hx).2.1
    simp at hb
    subst hb
    have := hg.1
    simp only at this e
    omega
--## d
theorem Mem.cellIn {w0 W : World} {r l : Blocks} {b : Nat} {cs : List Value} (h : Mem w0 W r l) (hm : (b, cs) ∈ l) (o : Nat) (v : Value) (hc : cs[o]? = some v) : W.cell? ⟨b, o, none⟩ = some v ∧ W.frozen? ⟨b, o, none⟩ = false := by
  obtain ⟨_, _, h3, h4⟩ := h.new _ hm
  have e1 := h3 o v hc
  have e2 := (h4 o (List.getElem?_eq_some_iff.1 hc).1).2
  rw [Nat.zero_add] at e1 e2
  exact ⟨e1, e2⟩
--## d
theorem Mem.store1 {w0 W : World} {r : Blocks} {b : Nat} {cs : List Value} (h : Mem w0 W r [(b, cs)]) (o : Nat) (v : Value) (hf : o + 1 ≤ cs.length) : Mem w0 (W.setCell ⟨b, o, none⟩ v) r [(b, splice cs o [v])] :=
  (Mem.store h (k := 0) rfl o [v] hf).2
--## d
theorem Mem.cellAt {w0 W : World} {r : Blocks} {b : Nat} {cs : List Value} (h : Mem w0 W r [(b, cs)]) (o : Nat) (v : Value) (hc : cs[o]? = some v) : W.cell? ⟨b, o, none⟩ = some v ∧ W.frozen? ⟨b, o, none⟩ = false := by
  obtain ⟨_, _, h3, h4⟩ := h.new _ (by simp : (b, cs) ∈ [(b, cs)])
  have e1 := h3 o v hc
  have e2 := (h4 o (List.getElem?_eq_some_iff.1 hc).1).2
  rw [Nat.zero_add] at e1 e2
  exact ⟨e1, e2⟩
--## d
end Go.Proofs.Yteckjpdfecgljaa
