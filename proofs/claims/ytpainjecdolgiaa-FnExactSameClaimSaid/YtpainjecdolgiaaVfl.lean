/- Flows all of whose values are known in closed form. -/
import Derived.Test.YtpainjecdolgiaaFlw
namespace Go.Proofs.Ytpainjecdolgiaa
--## d
open Go.Inv
--## d
open Go.Flo Go.Mem
set_option linter.unusedSimpArgs false
set_option linter.unusedVariables false
set_option maxRecDepth 20000
--## d
theorem flow_vals {L : Nat → Bool} {v : Nat → Value} {i : Nat} {u : Value} {vs : List Value} (h : ∀ j, L j = true → v j = vs.getD j undef) (hu : u = vs.getD i undef) : ∀ j, put L i j = true → upd v i u j = vs.getD j undef := by
  intro j hj
  by_cases e : j = i
  · subst e
    simp only [upd, if_true, hu]
  · have h1 : upd v i u j = v j := by simp [upd, e]
    have h2 : L j = true := by simpa [put, e] using hj
    rw [h1, h j h2]
--## d
section
--## d
variable {P : Program} {o : Oper} {a : Act} {W : World} {K : Act → World → Prop} {Q : Exit → Act → World → Prop}
--## d
theorem wp_len {c : Call} {X : Operand} {p : Option Addr} {n m : Nat} (ho : o.op = .call c) (hc : c.callee = .builtin .len) (ha : c.args = #[X]) {t e : TypeId} (hat : c.argTypes = #[t]) (hu : P.underlying t = some (.slice e)) (hX : a.eval X = .slice p n m)
    (hK : K (a.put o.dst (.int .i64 n)) W) : Oper.wp P o a W K Q := by
  refine Mem.wp_val ?_ hK
  unfold execOp
  generalize hE : a.eval = ev at hX ⊢
  simp [ho, resolve, hc, ha, hX, hat, run_underlying hu, invoke, builtin, Builtin.len_, go_sem]
--## d
theorem run_neq_intE {t : TypeId} {k : IntKind} (X Y : Operand) (x y : Int) (w : World) : (do eqGuard .neq t X Y (.int k x) (.int k y); binOp .neq t (.int k x) (.int k y) : Sem Value).run P w = .ok (.bool (x != y)) w := by
  simp [eqGuard, binOp, go_sem]
--## d
end
--## d
theorem Mem.cellOld {w0 W : World} {r l : Blocks} (h : Mem w0 W r l) {b : Nat} {cs : List Value} (hm : (b, cs) ∈ r) (i : Nat) (v : Value) (hv : cs[i]? = some v) : W.cell? ⟨b, i, none⟩ = some v := by
  have := (h.old _ hm).2 i v hv
  simpa using this
--## d
end Go.Proofs.Ytpainjecdolgiaa
