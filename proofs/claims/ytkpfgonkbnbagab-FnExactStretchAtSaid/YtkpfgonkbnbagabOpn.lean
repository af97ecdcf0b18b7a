/- Arguments of a law, opened: planes and cameras by value. -/
import Derived.Test.YtkpfgonkbnbagabOpen
namespace Go.Proofs.Ytkpfgonkbnbagab
open Go.ChangeShapes Go.WideShapes Go.ChangeAt Go.RowKit Go.Flo
set_option linter.unusedSimpArgs false
set_option linter.unusedVariables false

--## open_spot
section
variable {H : Type} {enc : TypeId × Value → H} {P : Program} {w : World} {base : Nat} {spare : Nat → Bool} {held : Bool}
theorem trod_array2 {t e : TypeId} {fuel : Nat} {c0 c1 : Value} {x : DataW H × List MemPlace} (ht : P.underlying t = some (.array 2 e)) (hce : P.cellsOf e = 1)
    (h : DataW.trod enc P w base spare held fuel t [c0, c1] = some x) :
    ∃ y0 y1 n, DataW.trod enc P w base spare held n e [c0] = some y0 ∧ DataW.trod enc P w base spare held n e [c1] = some y1 := by
  cases fuel with
  | zero => simp [DataW.trod] at h
  | succ n =>
    unfold DataW.trod at h
    rw [ht] at h
    have r2 : List.range 2 = [0, 1] := rfl
    simp [r2, hce] at h
    obtain ⟨_, h⟩ := h
    cases h0 : DataW.trod enc P w base spare held n e [c0] with
    | none => simp [h0] at h
    | some y0 =>
      cases h1 : DataW.trod enc P w base spare held n e [c1] with
      | none => simp [h0, h1] at h
      | some y1 => exact ⟨y0, y1, n, h0, h1⟩
theorem open_spot {r : Reach} {b0 : Nat} {t e : TypeId} {v : Value} {d : DataW H} {ps : List MemPlace} (ht : P.underlying t = some (.array 2 e)) (he : P.underlying e = some (.float .f32)) (hc : P.cellsOf t = 2) (hce : P.cellsOf e = 1)
    (hval : Value.okWide P w r b0 t v) (hd : DataW.Trod enc P w base spare held t v d ps) :
    ∃ x0 x1, v = .agg #[.float .f32 x0, .float .f32 x1] := by
  simp only [Value.okWide, ht] at hval
  obtain ⟨cs, rfl, hsz, _⟩ := hval
  obtain ⟨c0, c1, rfl⟩ := Joins.array2 (hsz.trans hc)
  obtain ⟨fuel, hf⟩ := hd
  obtain ⟨y0, y1, n, h0, h1⟩ := trod_array2 ht hce hf
  obtain ⟨x0, rfl, _⟩ := cell_float he h0
  obtain ⟨x1, rfl, _⟩ := cell_float he h1
  exact ⟨x0, x1, rfl⟩
end
--## arrays
theorem mapM_mem {α β : Type} (f : α → Option β) : ∀ (l : List α) {a : List β}, l.mapM f = some a → ∀ x ∈ l, ∃ y, f x = some y
  | [], _, _, x, hx => by cases hx
  | y :: l, a, h, x, hx => by
    rw [List.mapM_cons] at h
    simp only [bind, Option.bind_eq_some_iff, pure, Option.some.injEq] at h
    obtain ⟨b, hb, bs, has, _⟩ := h
    rcases List.mem_cons.1 hx with rfl | hx
    · exact ⟨b, hb⟩
    · exact mapM_mem f l has x hx
theorem trod_arrayN {H : Type} {enc : TypeId × Value → H} {w : World} {base : Nat} {spare : Nat → Bool} {held : Bool} {P : Program} {t e : TypeId} {len fuel : Nat} {cs : List Value} {x : DataW H × List MemPlace} (ht : P.underlying t = some (.array len e))
    (h : DataW.trod enc P w base spare held fuel t cs = some x) :
    ∃ n, ∀ i, i < len → ∃ y, DataW.trod enc P w base spare held n e ((cs.drop (i * P.cellsOf e)).take (P.cellsOf e)) = some y := by
  cases fuel with
  | zero => simp [DataW.trod] at h
  | succ n =>
    unfold DataW.trod at h
    rw [ht] at h
    refine ⟨n, fun i hi => ?_⟩
    simp at h
    obtain ⟨_, a, ha, _⟩ := h
    exact mapM_mem _ _ ha i (List.mem_range.2 hi)
theorem arr9 {α : Type} {cs : Array α} (h : cs.size = 9) : ∃ c0 c1 c2 c3 c4 c5 c6 c7 c8, cs = #[c0, c1, c2, c3, c4, c5, c6, c7, c8] := by
  obtain ⟨l⟩ := cs
  match l, h with
  | [c0, c1, c2, c3, c4, c5, c6, c7, c8], _ => exact ⟨c0, c1, c2, c3, c4, c5, c6, c7, c8, rfl⟩
theorem arr8 {α : Type} {cs : Array α} (h : cs.size = 8) : ∃ c0 c1 c2 c3 c4 c5 c6 c7, cs = #[c0, c1, c2, c3, c4, c5, c6, c7] := by
  obtain ⟨l⟩ := cs
  match l, h with
  | [c0, c1, c2, c3, c4, c5, c6, c7], _ => exact ⟨c0, c1, c2, c3, c4, c5, c6, c7, rfl⟩
--## open_map 40
section
variable {H : Type} {enc : TypeId × Value → H} {w : World} {base : Nat} {spare : Nat → Bool} {held : Bool}
set_option maxRecDepth 100000 in
theorem open_map {r : Reach} {b0 : Nat} {v : Value} {d : DataW H} {ps : List MemPlace} (hval : Value.okWide Try.prog w r b0 40 v) (hd : DataW.Trod enc Try.prog w base spare held 40 v d ps) :
    ∃ x0 x1 x2 x3 x4 x5 x6 x7 x8, v = .agg #[.float .f32 x0, .float .f32 x1, .float .f32 x2, .float .f32 x3, .float .f32 x4, .float .f32 x5, .float .f32 x6, .float .f32 x7, .float .f32 x8] := by
  simp only [Value.okWide, Try.underlying40] at hval
  obtain ⟨cs, rfl, hsz, _⟩ := hval
  obtain ⟨c0, c1, c2, c3, c4, c5, c6, c7, c8, rfl⟩ := arr9 (hsz.trans (by kernel_rfl))
  obtain ⟨fuel, hf⟩ := hd
  obtain ⟨n, hx⟩ := trod_arrayN Try.underlying40 hf
  have t1 : Try.prog.cellsOf 22 = 1 := by kernel_rfl
  obtain ⟨y0, h0⟩ := hx 0 (by omega)
  obtain ⟨x0, rfl, _⟩ := cell_float (c := c0) Try.underlying22 (by simpa [t1, Value.cells] using h0)
  obtain ⟨y1, h1⟩ := hx 1 (by omega)
  obtain ⟨x1, rfl, _⟩ := cell_float (c := c1) Try.underlying22 (by simpa [t1, Value.cells] using h1)
  obtain ⟨y2, h2⟩ := hx 2 (by omega)
  obtain ⟨x2, rfl, _⟩ := cell_float (c := c2) Try.underlying22 (by simpa [t1, Value.cells] using h2)
  obtain ⟨y3, h3⟩ := hx 3 (by omega)
  obtain ⟨x3, rfl, _⟩ := cell_float (c := c3) Try.underlying22 (by simpa [t1, Value.cells] using h3)
  obtain ⟨y4, h4⟩ := hx 4 (by omega)
  obtain ⟨x4, rfl, _⟩ := cell_float (c := c4) Try.underlying22 (by simpa [t1, Value.cells] using h4)
  obtain ⟨y5, h5⟩ := hx 5 (by omega)
  obtain ⟨x5, rfl, _⟩ := cell_float (c := c5) Try.underlying22 (by simpa [t1, Value.cells] using h5)
  obtain ⟨y6, h6⟩ := hx 6 (by omega)
  obtain ⟨x6, rfl, _⟩ := cell_float (c := c6) Try.underlying22 (by simpa [t1, Value.cells] using h6)
  obtain ⟨y7, h7⟩ := hx 7 (by omega)
  obtain ⟨x7, rfl, _⟩ := cell_float (c := c7) Try.underlying22 (by simpa [t1, Value.cells] using h7)
  obtain ⟨y8, h8⟩ := hx 8 (by omega)
  obtain ⟨x8, rfl, _⟩ := cell_float (c := c8) Try.underlying22 (by simpa [t1, Value.cells] using h8)
  exact ⟨x0, x1, x2, x3, x4, x5, x6, x7, x8, rfl⟩
end
--## open_four 50
section
variable {H : Type} {enc : TypeId × Value → H} {w : World} {base : Nat} {spare : Nat → Bool} {held : Bool}
set_option maxRecDepth 100000 in
theorem open_four {r : Reach} {b0 : Nat} {v : Value} {d : DataW H} {ps : List MemPlace} (hval : Value.okWide Try.prog w r b0 50 v) (hd : DataW.Trod enc Try.prog w base spare held 50 v d ps) :
    ∃ x0 x1 x2 x3 x4 x5 x6 x7, v = .agg #[.float .f32 x0, .float .f32 x1, .float .f32 x2, .float .f32 x3, .float .f32 x4, .float .f32 x5, .float .f32 x6, .float .f32 x7] := by
  simp only [Value.okWide, Try.underlying50] at hval
  obtain ⟨cs, rfl, hsz, _⟩ := hval
  obtain ⟨c0, c1, c2, c3, c4, c5, c6, c7, rfl⟩ := arr8 (hsz.trans (by kernel_rfl))
  obtain ⟨fuel, hf⟩ := hd
  obtain ⟨n, hx⟩ := trod_arrayN Try.underlying50 hf
  have t2 : Try.prog.cellsOf 24 = 2 := by kernel_rfl
  have t1 : Try.prog.cellsOf 22 = 1 := by kernel_rfl
  obtain ⟨y0, h0⟩ := hx 0 (by omega)
  obtain ⟨_, _, _, a0, b0⟩ := trod_array2 (c0 := c0) (c1 := c1) Try.underlying24 t1 (by simpa [t2, Value.cells] using h0)
  obtain ⟨x0, rfl, _⟩ := cell_float Try.underlying22 a0
  obtain ⟨x1, rfl, _⟩ := cell_float Try.underlying22 b0
  obtain ⟨y1, h1⟩ := hx 1 (by omega)
  obtain ⟨_, _, _, a1, b1⟩ := trod_array2 (c0 := c2) (c1 := c3) Try.underlying24 t1 (by simpa [t2, Value.cells] using h1)
  obtain ⟨x2, rfl, _⟩ := cell_float Try.underlying22 a1
  obtain ⟨x3, rfl, _⟩ := cell_float Try.underlying22 b1
  obtain ⟨y2, h2⟩ := hx 2 (by omega)
  obtain ⟨_, _, _, a2, b2⟩ := trod_array2 (c0 := c4) (c1 := c5) Try.underlying24 t1 (by simpa [t2, Value.cells] using h2)
  obtain ⟨x4, rfl, _⟩ := cell_float Try.underlying22 a2
  obtain ⟨x5, rfl, _⟩ := cell_float Try.underlying22 b2
  obtain ⟨y3, h3⟩ := hx 3 (by omega)
  obtain ⟨_, _, _, a3, b3⟩ := trod_array2 (c0 := c6) (c1 := c7) Try.underlying24 t1 (by simpa [t2, Value.cells] using h3)
  obtain ⟨x6, rfl, _⟩ := cell_float Try.underlying22 a3
  obtain ⟨x7, rfl, _⟩ := cell_float Try.underlying22 b3
  exact ⟨x0, x1, x2, x3, x4, x5, x6, x7, rfl⟩
end
--## end
end Go.Proofs.Ytkpfgonkbnbagab
