/- Laws of single float operations, in a state of which only what is asked is known. -/
import Derived.Test.YteckjpdfecgljaaFloB
import Derived.Test.YteckjpdfecgljaaMem
namespace Go.Flo
open Go Go.RowKit
section
variable {P : Program} {o : Oper} {a : Act} {W : World} {K : Act → World → Prop} {Q : Exit → Act → World → Prop}
theorem wp_widen {t u : TypeId} {X : Operand} (ho : o.op = .convert t u X) {x : Nat} (hx : a.eval X = .float .f32 x) (ht : (P.underlying t).isSome = true) (hu : P.underlying u = some (.float .f64))
    (hK : ∀ r n, kcv .f64 r = wide (kcv .f32 x) → K (a.put o.dst (.float .f64 r)) (W.drewN n)) : Oper.wp P o a W K Q := by
  obtain ⟨r, n, hrun, hr, _⟩ := run_widen (P := P) t u x W ht hu
  have : (execOp a.eval o).run P W = .ok (.value (.float .f64 r)) (W.drewN n) := by
    unfold execOp; simp only [ho, hx, Sem.run_bind, hrun, Result.andThen_ok, Sem.run_pure]
  unfold Oper.wp; rw [this]; exact hK r n hr
end
end Go.Flo
