/- Contracts: the nearest integer, the sine. -/
import Derived.Test.YtpainjecdolgiaaPtC
import Derived.Test.YtpainjecdolgiaaMathP
namespace Go.Proofs.Ytpainjecdolgiaa
open Go.RowKit Go.Flo
set_option linter.unusedSimpArgs false
set_option linter.unusedVariables false

theorem rteB_cv {x : Nat} (h : rung Ieee.double x ≤ Ieee.double.infRung) : kcv .f64 (rteB x) = rteV (kcv .f64 x) := by
  have h1 : kcv .f64 x = some x := cv_some (f := Ieee.double) h
  rw [h1]
  refine cv_some (f := Ieee.double) ?_
  unfold rteB
  rcases Nat.lt_or_ge (rung Ieee.double x) Ieee.double.infRung with g | g
  · obtain ⟨m, i, e, _, _⟩ := read_number Ieee.double g
    have e' : FloatKind.f64.decode x = _ := e
    rw [e']; exact rung_write_le Ieee.double trivial
  · have e := read_inf good_double (w := x) (by omega)
    have e' : FloatKind.f64.decode x = _ := e
    rw [e']; exact rung_write_le Ieee.double trivial
theorem wide_num {x q : Nat} (h : finV (kcv .f32 x) = true) (hq : kcv .f64 q = wide (kcv .f32 x)) : rung Ieee.double q ≤ Ieee.double.infRung := by
  obtain ⟨b, hb, hr⟩ := finV_some h
  obtain ⟨r, m, p, hw, _⟩ := wide_some hr
  rw [hb, hw] at hq
  rcases cv_cases Ieee.double q with ⟨h1, g1⟩ | ⟨h1, g1⟩
  · have : kcv .f64 q = none := h1
    rw [this] at hq; cases hq
  · exact g1
theorem toInt_of {x : Nat} {d : Ieee.Datum} (e : FloatKind.f64.decode x = d) (hd : ∀ s t, d ≠ .nan s t) (n : String) (way : Ieee.Toward) : Extern.MathFloor.toIntegral n way #[.float .f64 x] = pure (.float .f64 (FloatKind.f64.encode (Ieee.Datum.integral way d))) := by
  delta Extern.MathFloor.toIntegral
  conv => lhs; whnf
  rw [e]
  cases d with
  | nan s t => exact (hd s t rfl).elim
  | infinity s => rfl
  | number s m i => rfl
theorem nan64 : kcv .f64 9221120237041090561 = none := cv_none (f := Ieee.double) (by decide)
theorem narrowOk_none : NarrowOk none := fun b h => by cases h
theorem wpList_val {P : Program} {ops : Array Oper} {rest : List Oper} {o : Oper} {a : Act} {w : World} {Q : Exit → Act → World → Prop} (hgd : o.guard = none) {v : Value}
    (hrun : (execOp a.eval o).run P w = .ok (.value v) w) (h : wpList P ops Q rest (a.put o.dst v) w) : wpList P ops Q (o :: rest) a w := by
  refine wpList_plain hgd fun K hK => ?_
  unfold Oper.wp
  rw [hrun]
  exact hK _ _ h
theorem wpList_rte {P : Program} {ops : Array Oper} {rest : List Oper} {o : Oper} {a : Act} {w : World} {Q : Exit → Act → World → Prop} {f : FuncId} (he : ∀ x, rung Ieee.double x ≤ Ieee.double.infRung → ∀ w, (callFunc f #[.float .f64 x]).run P w = .ok (.value (.float .f64 (rteB x))) w) (hgd : o.guard = none)
    (c : Call) (ho : o.op = .call c) (F X : Operand) (hc : c.callee = .value F) (hF : a.eval F = .func (.func f) #[] #[]) (ha : c.args.map a.eval = #[a.eval X]) (x : Nat) (hx : a.eval X = .float .f64 x) (hr : rung Ieee.double x ≤ Ieee.double.infRung)
    (h : wpList P ops Q rest (a.put o.dst (.float .f64 (rteB x))) w) : wpList P ops Q (o :: rest) a w := by
  refine wpList_val hgd ?_ h
  unfold execOp
  simp only [ho, resolve, hc, hF, Deferred.ofValue, Sem.run_bind, Sem.run_pure, Result.andThen_ok, invoke]
  rw [show (#[] ++ c.args.map a.eval ++ #[] : Array Value) = #[.float .f64 x] by rw [ha, hx]; rfl]
  exact he x hr w

--## end
end Go.Proofs.Ytpainjecdolgiaa
