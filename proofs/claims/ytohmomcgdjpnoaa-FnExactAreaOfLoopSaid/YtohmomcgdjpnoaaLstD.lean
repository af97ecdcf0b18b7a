/- Lists of pairs as arguments of a law. -/
import Derived.Test.YtohmomcgdjpnoaaLstC
import Derived.Test.YtohmomcgdjpnoaaOpn
namespace Go.Proofs.Ytohmomcgdjpnoaa
open Go.ChangeShapes Go.WideShapes Go.ChangeAt Go.RowKit Go.Flo Go.Mem
set_option linter.unusedSimpArgs false
set_option linter.unusedVariables false
theorem pls_flat {w0 W : World} {g : Nat} {ps : List (Nat × Nat)} (HM : Mem w0 W [] [(g, flat ps)]) : Pls W (.slice (some ⟨g, 0, none⟩) ps.length ps.length) ps := by
  obtain ⟨hg, hl, hr, _⟩ := HM.new (g, flat ps) (by simp)
  refine ⟨some ⟨g, 0, none⟩, ps.length, rfl, fun j p hp => ?_⟩
  have h := flat_get ps j p hp
  refine ⟨⟨g, 0, none⟩, rfl, hl, ?_, ?_⟩
  · rw [Addr.add_mid, show 0 + j * 2 = 0 + 2 * j by omega]
    exact hr _ _ h.1
  · rw [Addr.add_mid, Addr.add_mid, show 0 + j * 2 + 1 = 0 + (2 * j + 1) by omega]
    exact hr _ _ h.2
section
variable {H : Type} {enc : TypeId × Value → H} {P : Program} {w : World} {base : Nat} {spare : Nat → Bool} {held : Bool}
def pairOf (v : List Value) : Nat × Nat := match v with | [.float _ a, .float _ b] => (a, b) | _ => (0, 0)
theorem open_pairs {r : Reach} {b0 : Nat} {t e f : TypeId} {v : Value} {d : DataW H} {ms : List MemPlace} (ht : P.underlying t = some (.slice e)) (he : P.underlying e = some (.array 2 f)) (hf : P.underlying f = some (.float .f32)) (hce : P.cellsOf e = 2) (hcf : P.cellsOf f = 1)
    (hval : Value.okWide P w r b0 t v) (hd : DataW.Trod enc P w base spare held t v d ms) : ∃ ps : List (Nat × Nat), Pls w v ps ∧ ps.length ≤ maxLen := by
  obtain ⟨fuel, h⟩ := hd
  simp only [Value.okWide, ht] at hval
  obtain ⟨a, len, cap, rfl⟩ : ∃ a len cap, v = .slice a len cap := by
    clear h
    cases v <;> simp_all [Cell.okWide, Cell.ok]
  rcases DataW.trod_slice ht h with ⟨h1, _⟩ | ⟨a', len', cap', elems, rest, n, _, h1, _, hb, hl, hm, hlen, hel, _, _⟩
  · have h1' : Value.slice a len cap = .slice none 0 0 := by simpa [Value.cells] using h1
    cases h1'
    exact ⟨[], ⟨none, 0, rfl, fun j p hp => by cases hp⟩, by decide⟩
  · have h1' : Value.slice a len cap = .slice (some a') len' cap' := by simpa [Value.cells] using h1
    cases h1'
    have each : ∀ i, i < len → ∃ p : Nat × Nat, w.cell? (a'.add (i * 2)) = some (.float .f32 p.1) ∧ w.cell? ((a'.add (i * 2)).add 1) = some (.float .f32 p.2) := by
      intro i hi
      have h2 := hel i hi
      rw [List.getElem?_eq_getElem (by omega), hce, Option.bind_eq_some_iff] at h2
      obtain ⟨cs, h3, h4⟩ := h2
      obtain ⟨_, h5, h6⟩ := World.cells?_some h3
      match cs, h5 with
      | [c0, c1], _ =>
        obtain ⟨y0, y1, m, g0, g1⟩ := trod_array2 he hcf h4
        obtain ⟨x0, rfl, _⟩ := cell_float hf g0
        obtain ⟨x1, rfl, _⟩ := cell_float hf g1
        exact ⟨(x0, x1), h6 0 (by omega), h6 1 (by omega)⟩
    obtain ⟨F, hF⟩ : ∃ F : Nat → Nat × Nat, ∀ i, i < len → w.cell? (a'.add (i * 2)) = some (.float .f32 (F i).1) ∧ w.cell? ((a'.add (i * 2)).add 1) = some (.float .f32 (F i).2) :=
      ⟨fun i => if hi : i < len then (each i hi).choose else (0, 0), fun i hi => by simp only [dif_pos hi]; exact (each i hi).choose_spec⟩
    refine ⟨(List.range len).map F, ⟨some a', cap, by simp, fun j p hp => ?_⟩, by simp; omega⟩
    rw [List.getElem?_map, Option.map_eq_some_iff] at hp
    obtain ⟨j', hj, rfl⟩ := hp
    have hj1 := List.getElem?_eq_some_iff.1 hj
    obtain ⟨hj2, hj3⟩ := hj1
    simp at hj2 hj3
    subst hj3
    refine ⟨a', rfl, ?_, (hF j hj2).1, (hF j hj2).2⟩
    have := World.block_lt_of_cell? w _ (hF j hj2).1
    rw [add_block] at this; exact this
end
theorem toF2S' (v : Value) (ps : List (Nat × Nat)) (w : World) (hP : Pls w v ps) (hn : ps.length ≤ 1048576) :
    Calls Try.prog 34 #[v] w (fun e w' => ∃ u, e = .returned u ∧ Pls w' u ps ∧ Below w.heap.size w w') :=
  (toF2S v ps w hP hn).mono fun e w' ⟨he, cs, hM, hc⟩ => ⟨_, he, pls_flat (hc ▸ hM), hM.below⟩
end Go.Proofs.Ytohmomcgdjpnoaa
