/- Arguments of a law, opened: marks and strokes by value. -/
import Derived.Test.YtbhbdpcefgledaaOpen
import Derived.Test.YtbhbdpcefgledaaMrkA
namespace Go.Proofs.Ytbhbdpcefgledaa
--## d
open Go.ChangeShapes Go.WideShapes Go.ChangeAt Go.RowKit
set_option linter.unusedSimpArgs false
set_option linter.unusedVariables false
set_option maxRecDepth 20000
set_option linter.constructorNameAsVariable false
--## d
/-- nothing that was there has turned (kept whole from simp) -/
def Bel (w W : World) : Prop := Below w.heap.size w W
--## d
theorem Bel.refl (w : World) : Bel w w := Below.refl _ _
--## d
theorem Bel.drew {w W : World} (h : Bel w W) : Bel w W.drew := Below.drew h
--## d
theorem Bel.out {w W : World} (h : Bel w W) : Below w.heap.size w W := h
--## d
theorem Bel.alloc {w W : World} {o : Obj} (h : Bel w W) : Bel w (W.alloc o) := below_alloc h
--## d
theorem Bel.set {w W : World} {p : Addr} {v : Value} (h : Bel w W) (hp : w.heap.size ≤ p.block) : Bel w (W.setCell p v) := below_set h hp
--## d
theorem Bel.step {w W w' : World} (h : Bel w W) (hb : Below W.heap.size W w') : Bel w w' := below_step hb h
--## d
theorem i16_wf {x : Int} (h : (Lit.int .i16 x).wf = true) : I16 x := by
  simp [Lit.wf, IntKind.min, IntKind.max, IntKind.signed, IntKind.bits] at h
  exact h
--## d
theorem i8_wf {x : Int} (h : (Lit.int .i8 x).wf = true) : I8 x := by
  simp [Lit.wf, IntKind.min, IntKind.max, IntKind.signed, IntKind.bits] at h
  exact h
--## d
def I64 (x : Int) : Prop := -9223372036854775808 ≤ x ∧ x ≤ 9223372036854775807
--## d
theorem i64_wf {x : Int} (h : (Lit.int .i64 x).wf = true) : I64 x := by
  simp [Lit.wf, IntKind.min, IntKind.max, IntKind.signed, IntKind.bits] at h
  exact h
--## d
section
--## d
variable {H : Type} {enc : TypeId × Value → H} {P : Program} {w : World} {base : Nat} {spare : Nat → Bool} {held : Bool}
--## d
theorem cell_int {k : IntKind} {n : Nat} {e : TypeId} {c : Value} {y : DataW H × List MemPlace} (he : P.underlying e = some (.int k)) (h : DataW.trod enc P w base spare held n e [c] = some y) : ∃ b, c = .int k b ∧ (Lit.int k b).wf = true := by
  cases n with
  | zero => simp [DataW.trod] at h
  | succ n =>
    unfold DataW.trod at h
    simp only [he] at h
    cases c <;> simp_all
--## d
theorem trod_ints2 {t e : TypeId} {fuel : Nat} {c0 c1 : Value} {x : DataW H × List MemPlace} (ht : P.underlying t = some (.array 2 e)) (hce : P.cellsOf e = 1)
    (h : DataW.trod enc P w base spare held fuel t [c0, c1] = some x) :
    ∃ y0 y1 n, DataW.trod enc P w base spare held n e [c0] = some y0 ∧ DataW.trod enc P w base spare held n e [c1] = some y1 := by
  cases fuel with
  | zero => simp [DataW.trod] at h
  | succ n =>
    unfold DataW.trod at h
    rw [ht] at h
    have r2 : List.range 2 = [0, 1] := rfl
    simp [r2, hce] at h
    obtain ⟨_, h⟩ := h
    cases h0 : DataW.trod enc P w base spare held n e [c0] with
    | none => simp [h0] at h
    | some y0 =>
      cases h1 : DataW.trod enc P w base spare held n e [c1] with
      | none => simp [h0, h1] at h
      | some y1 => exact ⟨y0, y1, n, h0, h1⟩
--## d
theorem open_mark {r : Reach} {b0 : Nat} {t e : TypeId} {v : Value} {d : DataW H} {ps : List MemPlace} (ht : P.underlying t = some (.array 2 e)) (he : P.underlying e = some (.int .i16)) (hc : P.cellsOf t = 2) (hce : P.cellsOf e = 1)
    (hval : Value.okWide P w r b0 t v) (hd : DataW.Trod enc P w base spare held t v d ps) :
    ∃ x0 x1, v = mk x0 x1 ∧ I16 x0 ∧ I16 x1 := by
  simp only [Value.okWide, ht] at hval
  obtain ⟨cs, rfl, hsz, _⟩ := hval
  obtain ⟨c0, c1, rfl⟩ := Joins.array2 (hsz.trans hc)
  obtain ⟨fuel, hf⟩ := hd
  obtain ⟨y0, y1, n, h0, h1⟩ := trod_ints2 ht hce hf
  obtain ⟨x0, rfl, g0⟩ := cell_int he h0
  obtain ⟨x1, rfl, g1⟩ := cell_int he h1
  exact ⟨x0, x1, rfl, i16_wf g0, i16_wf g1⟩
--## d
end
--## d
theorem arr5i {α : Type} {cs : Array α} (h : cs.size = 5) : ∃ c0 c1 c2 c3 c4, cs = #[c0, c1, c2, c3, c4] := by
  obtain ⟨l⟩ := cs
  match l, h with
  | [c0, c1, c2, c3, c4], _ => exact ⟨c0, c1, c2, c3, c4, rfl⟩
--## d
section
--## d
variable {H : Type} {enc : TypeId × Value → H} {w : World} {base : Nat} {spare : Nat → Bool} {held : Bool}
--## d
theorem trod_stroke {fuel : Nat} {c0 c1 c2 c3 c4 : Value} {y : DataW H × List MemPlace} (hf : DataW.trod enc Try.prog w base spare held fuel 77 [c0, c1, c2, c3, c4] = some y) : ∃ a b c d e, [c0, c1, c2, c3, c4] = [Value.int .i16 a, .int .i16 b, .int .i16 c, .int .i16 d, .int .i8 e] ∧ I16 a ∧ I16 b ∧ I16 c ∧ I16 d ∧ I8 e := by
  obtain ⟨xs, n, _, _, _, hlen, hx⟩ := DataW.trod_struct Try.underlying77 hf
  have t2 : Try.prog.cellsOf 37 = 2 := by kernel_rfl
  have t1 : Try.prog.cellsOf 68 = 1 := by kernel_rfl
  have g0 := hx 0 _ rfl
  obtain ⟨y0, e0⟩ : ∃ y, xs[0]? = some y := ⟨xs[0]'(by rw [hlen]; decide), List.getElem?_eq_getElem _⟩
  rw [e0] at g0
  have z0 : DataW.trod enc Try.prog w base spare held n 37 [c0, c1] = some y0 := by
    simpa [Value.cells, t2, t1] using g0
  obtain ⟨_, _, _, h0, h1⟩ := trod_ints2 Try.underlying37 (by kernel_rfl) z0
  obtain ⟨a, rfl, ga⟩ := cell_int Try.underlying36 h0
  obtain ⟨b, rfl, gb⟩ := cell_int Try.underlying36 h1
  have g1 := hx 1 _ rfl
  obtain ⟨y1, e1⟩ : ∃ y, xs[1]? = some y := ⟨xs[1]'(by rw [hlen]; decide), List.getElem?_eq_getElem _⟩
  rw [e1] at g1
  have z1 : DataW.trod enc Try.prog w base spare held n 37 [c2, c3] = some y1 := by
    simpa [Value.cells, t2, t1] using g1
  obtain ⟨_, _, _, h2, h3⟩ := trod_ints2 Try.underlying37 (by kernel_rfl) z1
  obtain ⟨c, rfl, gc⟩ := cell_int Try.underlying36 h2
  obtain ⟨d, rfl, gd⟩ := cell_int Try.underlying36 h3
  have g2 := hx 2 _ rfl
  obtain ⟨y2, e2⟩ : ∃ y, xs[2]? = some y := ⟨xs[2]'(by rw [hlen]; decide), List.getElem?_eq_getElem _⟩
  rw [e2] at g2
  have z2 : DataW.trod enc Try.prog w base spare held n 68 [c4] = some y2 := by
    simpa [Value.cells, t2, t1] using g2
  obtain ⟨e, rfl, ge⟩ := cell_int Try.underlying68 z2
  exact ⟨a, b, c, d, e, rfl, i16_wf ga, i16_wf gb, i16_wf gc, i16_wf gd, i8_wf ge⟩
--## d
theorem open_stroke {r : Reach} {b0 : Nat} {v : Value} {d : DataW H} {ps : List MemPlace} (hval : Value.okWide Try.prog w r b0 77 v) (hd : DataW.Trod enc Try.prog w base spare held 77 v d ps) :
    ∃ x0 x1 x2 x3 x4, v = st x0 x1 x2 x3 x4 ∧ I16 x0 ∧ I16 x1 ∧ I16 x2 ∧ I16 x3 ∧ I8 x4 := by
  simp only [Value.okWide, Try.underlying77] at hval
  obtain ⟨cs, rfl, hsz, _⟩ := hval
  obtain ⟨c0, c1, c2, c3, c4, rfl⟩ := arr5i (hsz.trans (by kernel_rfl))
  obtain ⟨fuel, hf⟩ := hd
  obtain ⟨a, b, c, d, e, he, h⟩ := trod_stroke hf
  simp at he
  obtain ⟨rfl, rfl, rfl, rfl, rfl⟩ := he
  exact ⟨a, b, c, d, e, rfl, h⟩
--## d
end
--## d
end Go.Proofs.Ytbhbdpcefgledaa
