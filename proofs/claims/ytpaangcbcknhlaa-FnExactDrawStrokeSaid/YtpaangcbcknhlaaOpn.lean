/- Arguments of a law, opened: planes and cameras by value. -/
import Derived.Test.YtpaangcbcknhlaaOpen
namespace Go.Proofs.Ytpaangcbcknhlaa
open Go.ChangeShapes Go.WideShapes Go.ChangeAt Go.RowKit Go.Flo
set_option linter.unusedSimpArgs false
set_option linter.unusedVariables false

--## open_spot
section
variable {H : Type} {enc : TypeId × Value → H} {P : Program} {w : World} {base : Nat} {spare : Nat → Bool} {held : Bool}
theorem trod_array2 {t e : TypeId} {fuel : Nat} {c0 c1 : Value} {x : DataW H × List MemPlace} (ht : P.underlying t = some (.array 2 e)) (hce : P.cellsOf e = 1)
    (h : DataW.trod enc P w base spare held fuel t [c0, c1] = some x) :
    ∃ y0 y1 n, DataW.trod enc P w base spare held n e [c0] = some y0 ∧ DataW.trod enc P w base spare held n e [c1] = some y1 := by
  cases fuel with
  | zero => simp [DataW.trod] at h
  | succ n =>
    unfold DataW.trod at h
    rw [ht] at h
    have r2 : List.range 2 = [0, 1] := rfl
    simp [r2, hce] at h
    obtain ⟨_, h⟩ := h
    cases h0 : DataW.trod enc P w base spare held n e [c0] with
    | none => simp [h0] at h
    | some y0 =>
      cases h1 : DataW.trod enc P w base spare held n e [c1] with
      | none => simp [h0, h1] at h
      | some y1 => exact ⟨y0, y1, n, h0, h1⟩
theorem open_spot {r : Reach} {b0 : Nat} {t e : TypeId} {v : Value} {d : DataW H} {ps : List MemPlace} (ht : P.underlying t = some (.array 2 e)) (he : P.underlying e = some (.float .f32)) (hc : P.cellsOf t = 2) (hce : P.cellsOf e = 1)
    (hval : Value.okWide P w r b0 t v) (hd : DataW.Trod enc P w base spare held t v d ps) :
    ∃ x0 x1, v = .agg #[.float .f32 x0, .float .f32 x1] := by
  simp only [Value.okWide, ht] at hval
  obtain ⟨cs, rfl, hsz, _⟩ := hval
  obtain ⟨c0, c1, rfl⟩ := Joins.array2 (hsz.trans hc)
  obtain ⟨fuel, hf⟩ := hd
  obtain ⟨y0, y1, n, h0, h1⟩ := trod_array2 ht hce hf
  obtain ⟨x0, rfl, _⟩ := cell_float he h0
  obtain ⟨x1, rfl, _⟩ := cell_float he h1
  exact ⟨x0, x1, rfl⟩
end
--## open_cam
theorem arr11 {α : Type} {cs : Array α} (h : cs.size = 11) : ∃ c0 c1 c2 c3 c4 c5 c6 c7 c8 c9 ca, cs = #[c0, c1, c2, c3, c4, c5, c6, c7, c8, c9, ca] := by
  obtain ⟨l⟩ := cs
  match l, h with
  | [c0, c1, c2, c3, c4, c5, c6, c7, c8, c9, ca], _ => exact ⟨c0, c1, c2, c3, c4, c5, c6, c7, c8, c9, ca, rfl⟩
section
variable {H : Type} {enc : TypeId × Value → H} {w : World} {base : Nat} {spare : Nat → Bool} {held : Bool}
set_option maxRecDepth 100000 in
theorem open_cam {r : Reach} {b0 : Nat} {v : Value} {d : DataW H} {ps : List MemPlace} (hval : Value.okWide Try.prog w r b0 47 v) (hd : DataW.Trod enc Try.prog w base spare held 47 v d ps) :
    ∃ x0 x1 x2 x3 x4 x5 x6 x7 x8 x9 xa, v = .agg #[.float .f32 x0, .float .f32 x1, .float .f32 x2, .float .f32 x3, .float .f32 x4, .float .f32 x5, .float .f32 x6, .float .f32 x7, .float .f32 x8, .float .f32 x9, .float .f32 xa] := by
  simp only [Value.okWide, Try.underlying47] at hval
  obtain ⟨cs, rfl, hsz, _⟩ := hval
  obtain ⟨c0, c1, c2, c3, c4, c5, c6, c7, c8, c9, ca, rfl⟩ := arr11 (hsz.trans (by kernel_rfl))
  obtain ⟨fuel, hf⟩ := hd
  obtain ⟨xs, n, _, _, _, hlen, hx⟩ := DataW.trod_struct Try.underlying47 hf
  have t3 : Try.prog.cellsOf 24 = 3 := by kernel_rfl
  have t1 : Try.prog.cellsOf 23 = 1 := by kernel_rfl
  have g0 := hx 0 _ rfl
  obtain ⟨y0, e0⟩ : ∃ y, xs[0]? = some y := ⟨xs[0]'(by rw [hlen]; decide), List.getElem?_eq_getElem _⟩
  rw [e0] at g0
  have z0 : DataW.trod enc Try.prog w base spare held n 24 [c0, c1, c2] = some y0 := by
    simpa [Value.cells, t3, t1] using g0
  obtain ⟨_, _, _, _, _, h0_0, h0_1, h0_2⟩ := trod_array3 Try.underlying24 (by kernel_rfl) z0
  obtain ⟨x0, rfl, _⟩ := cell_float Try.underlying23 h0_0
  obtain ⟨x1, rfl, _⟩ := cell_float Try.underlying23 h0_1
  obtain ⟨x2, rfl, _⟩ := cell_float Try.underlying23 h0_2
  have g1 := hx 1 _ rfl
  obtain ⟨y1, e1⟩ : ∃ y, xs[1]? = some y := ⟨xs[1]'(by rw [hlen]; decide), List.getElem?_eq_getElem _⟩
  rw [e1] at g1
  have z1 : DataW.trod enc Try.prog w base spare held n 24 [c3, c4, c5] = some y1 := by
    simpa [Value.cells, t3, t1] using g1
  obtain ⟨_, _, _, _, _, h1_0, h1_1, h1_2⟩ := trod_array3 Try.underlying24 (by kernel_rfl) z1
  obtain ⟨x3, rfl, _⟩ := cell_float Try.underlying23 h1_0
  obtain ⟨x4, rfl, _⟩ := cell_float Try.underlying23 h1_1
  obtain ⟨x5, rfl, _⟩ := cell_float Try.underlying23 h1_2
  have g2 := hx 2 _ rfl
  obtain ⟨y2, e2⟩ : ∃ y, xs[2]? = some y := ⟨xs[2]'(by rw [hlen]; decide), List.getElem?_eq_getElem _⟩
  rw [e2] at g2
  have z2 : DataW.trod enc Try.prog w base spare held n 24 [c6, c7, c8] = some y2 := by
    simpa [Value.cells, t3, t1] using g2
  obtain ⟨_, _, _, _, _, h2_0, h2_1, h2_2⟩ := trod_array3 Try.underlying24 (by kernel_rfl) z2
  obtain ⟨x6, rfl, _⟩ := cell_float Try.underlying23 h2_0
  obtain ⟨x7, rfl, _⟩ := cell_float Try.underlying23 h2_1
  obtain ⟨x8, rfl, _⟩ := cell_float Try.underlying23 h2_2
  have g3 := hx 3 _ rfl
  obtain ⟨y3, e3⟩ : ∃ y, xs[3]? = some y := ⟨xs[3]'(by rw [hlen]; decide), List.getElem?_eq_getElem _⟩
  rw [e3] at g3
  have z3 : DataW.trod enc Try.prog w base spare held n 23 [c9] = some y3 := by
    simpa [Value.cells, t3, t1] using g3
  obtain ⟨x9, rfl, _⟩ := cell_float Try.underlying23 z3
  have g4 := hx 4 _ rfl
  obtain ⟨y4, e4⟩ : ∃ y, xs[4]? = some y := ⟨xs[4]'(by rw [hlen]; decide), List.getElem?_eq_getElem _⟩
  rw [e4] at g4
  have z4 : DataW.trod enc Try.prog w base spare held n 23 [ca] = some y4 := by
    simpa [Value.cells, t3, t1] using g4
  obtain ⟨xa, rfl, _⟩ := cell_float Try.underlying23 z4
  exact ⟨x0, x1, x2, x3, x4, x5, x6, x7, x8, x9, xa, rfl⟩
end
--## arrays
theorem mapM_mem {α β : Type} (f : α → Option β) : ∀ (l : List α) {a : List β}, l.mapM f = some a → ∀ x ∈ l, ∃ y, f x = some y
  | [], _, _, x, hx => by cases hx
  | y :: l, a, h, x, hx => by
    rw [List.mapM_cons] at h
    simp only [bind, Option.bind_eq_some_iff, pure, Option.some.injEq] at h
    obtain ⟨b, hb, bs, has, _⟩ := h
    rcases List.mem_cons.1 hx with rfl | hx
    · exact ⟨b, hb⟩
    · exact mapM_mem f l has x hx
theorem trod_arrayN {H : Type} {enc : TypeId × Value → H} {w : World} {base : Nat} {spare : Nat → Bool} {held : Bool} {P : Program} {t e : TypeId} {len fuel : Nat} {cs : List Value} {x : DataW H × List MemPlace} (ht : P.underlying t = some (.array len e))
    (h : DataW.trod enc P w base spare held fuel t cs = some x) :
    ∃ n, ∀ i, i < len → ∃ y, DataW.trod enc P w base spare held n e ((cs.drop (i * P.cellsOf e)).take (P.cellsOf e)) = some y := by
  cases fuel with
  | zero => simp [DataW.trod] at h
  | succ n =>
    unfold DataW.trod at h
    rw [ht] at h
    refine ⟨n, fun i hi => ?_⟩
    simp at h
    obtain ⟨_, a, ha, _⟩ := h
    exact mapM_mem _ _ ha i (List.mem_range.2 hi)
theorem arr9 {α : Type} {cs : Array α} (h : cs.size = 9) : ∃ c0 c1 c2 c3 c4 c5 c6 c7 c8, cs = #[c0, c1, c2, c3, c4, c5, c6, c7, c8] := by
  obtain ⟨l⟩ := cs
  match l, h with
  | [c0, c1, c2, c3, c4, c5, c6, c7, c8], _ => exact ⟨c0, c1, c2, c3, c4, c5, c6, c7, c8, rfl⟩
theorem arr8 {α : Type} {cs : Array α} (h : cs.size = 8) : ∃ c0 c1 c2 c3 c4 c5 c6 c7, cs = #[c0, c1, c2, c3, c4, c5, c6, c7] := by
  obtain ⟨l⟩ := cs
  match l, h with
  | [c0, c1, c2, c3, c4, c5, c6, c7], _ => exact ⟨c0, c1, c2, c3, c4, c5, c6, c7, rfl⟩
--## end
end Go.Proofs.Ytpaangcbcknhlaa
