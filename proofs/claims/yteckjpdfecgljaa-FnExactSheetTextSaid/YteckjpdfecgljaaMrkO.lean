/- Arguments of a law, opened: marks and strokes by value. -/
import Derived.Test.YteckjpdfecgljaaOpen
import Derived.Test.YteckjpdfecgljaaMrkA
namespace Go.Proofs.Yteckjpdfecgljaa
--## d
open Go.ChangeShapes Go.WideShapes Go.ChangeAt Go.RowKit
set_option linter.unusedSimpArgs false
set_option linter.unusedVariables false
set_option maxRecDepth 20000
set_option linter.constructorNameAsVariable false
--## d
/-- nothing that was there has turned (kept whole from simp) -/
def Bel (w W : World) : Prop := Below w.heap.size w W
--## d
theorem Bel.refl (w : World) : Bel w w := Below.refl _ _
--## d
theorem Bel.drew {w W : World} (h : Bel w W) : Bel w W.drew := Below.drew h
--## d
theorem Bel.out {w W : World} (h : Bel w W) : Below w.heap.size w W := h
--## d
theorem Bel.alloc {w W : World} {o : Obj} (h : Bel w W) : Bel w (W.alloc o) := below_alloc h
--## d
theorem Bel.set {w W : World} {p : Addr} {v : Value} (h : Bel w W) (hp : w.heap.size ≤ p.block) : Bel w (W.setCell p v) := below_set h hp
--## d
theorem Bel.step {w W w' : World} (h : Bel w W) (hb : Below W.heap.size W w') : Bel w w' := below_step hb h
--## d
theorem i16_wf {x : Int} (h : (Lit.int .i16 x).wf = true) : I16 x := by
  simp [Lit.wf, IntKind.min, IntKind.max, IntKind.signed, IntKind.bits] at h
  exact h
--## d
theorem i8_wf {x : Int} (h : (Lit.int .i8 x).wf = true) : I8 x := by
  simp [Lit.wf, IntKind.min, IntKind.max, IntKind.signed, IntKind.bits] at h
  exact h
--## d
def I64 (x : Int) : Prop := -9223372036854775808 ≤ x ∧ x ≤ 9223372036854775807
--## d
theorem i64_wf {x : Int} (h : (Lit.int .i64 x).wf = true) : I64 x := by
  simp [Lit.wf, IntKind.min, IntKind.max, IntKind.signed, IntKind.bits] at h
  exact h
--## d
section
--## d
variable {H : Type} {enc : TypeId × Value → H} {P : Program} {w : World} {base : Nat} {spare : Nat → Bool} {held : Bool}
--## d
theorem cell_int {k : IntKind} {n : Nat} {e : TypeId} {c : Value} {y : DataW H × List MemPlace} (he : P.underlying e = some (.int k)) (h : DataW.trod enc P w base spare held n e [c] = some y) : ∃ b, c = .int k b ∧ (Lit.int k b).wf = true := by
  cases n with
  | zero => simp [DataW.trod] at h
  | succ n =>
    unfold DataW.trod at h
    simp only [he] at h
    cases c <;> simp_all
--## d
theorem trod_ints2 {t e : TypeId} {fuel : Nat} {c0 c1 : Value} {x : DataW H × List MemPlace} (ht : P.underlying t = some (.array 2 e)) (hce : P.cellsOf e = 1)
    (h : DataW.trod enc P w base spare held fuel t [c0, c1] = some x) :
    ∃ y0 y1 n, DataW.trod enc P w base spare held n e [c0] = some y0 ∧ DataW.trod enc P w base spare held n e [c1] = some y1 := by
  cases fuel with
  | zero => simp [DataW.trod] at h
  | succ n =>
    unfold DataW.trod at h
    rw [ht] at h
    have r2 : List.range 2 = [0, 1] := rfl
    simp [r2, hce] at h
    obtain ⟨_, h⟩ := h
    cases h0 : DataW.trod enc P w base spare held n e [c0] with
    | none => simp [h0] at h
    | some y0 =>
      cases h1 : DataW.trod enc P w base spare held n e [c1] with
      | none => simp [h0, h1] at h
      | some y1 => exact ⟨y0, y1, n, h0, h1⟩
--## d
theorem open_mark {r : Reach} {b0 : Nat} {t e : TypeId} {v : Value} {d : DataW H} {ps : List MemPlace} (ht : P.underlying t = some (.array 2 e)) (he : P.underlying e = some (.int .i16)) (hc : P.cellsOf t = 2) (hce : P.cellsOf e = 1)
    (hval : Value.okWide P w r b0 t v) (hd : DataW.Trod enc P w base spare held t v d ps) :
    ∃ x0 x1, v = mk x0 x1 ∧ I16 x0 ∧ I16 x1 := by
  simp only [Value.okWide, ht] at hval
  obtain ⟨cs, rfl, hsz, _⟩ := hval
  obtain ⟨c0, c1, rfl⟩ := Joins.array2 (hsz.trans hc)
  obtain ⟨fuel, hf⟩ := hd
  obtain ⟨y0, y1, n, h0, h1⟩ := trod_ints2 ht hce hf
  obtain ⟨x0, rfl, g0⟩ := cell_int he h0
  obtain ⟨x1, rfl, g1⟩ := cell_int he h1
  exact ⟨x0, x1, rfl, i16_wf g0, i16_wf g1⟩
--## d
end
--## d
theorem arr5i {α : Type} {cs : Array α} (h : cs.size = 5) : ∃ c0 c1 c2 c3 c4, cs = #[c0, c1, c2, c3, c4] := by
  obtain ⟨l⟩ := cs
  match l, h with
  | [c0, c1, c2, c3, c4], _ => exact ⟨c0, c1, c2, c3, c4, rfl⟩
--## d
section
--## d
variable {H : Type} {enc : TypeId × Value → H} {w : World} {base : Nat} {spare : Nat → Bool} {held : Bool}
--## d
end
--## d
end Go.Proofs.Yteckjpdfecgljaa
