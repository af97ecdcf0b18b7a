/- Known contracts of functions that reckon with single numbers, for the symbolic evaluator. -/
import Derived.Test.YtndbopccjkiagadSxJ
import Derived.Test.YtndbopccjkiagadPtC
import Derived.Test.YtndbopccjkiagadPtM
import Derived.Test.YtndbopccjkiagadLawA
namespace Go.Proofs.Ytndbopccjkiagad
open Go.RowKit Go.Flo Go.Mem Go.Inv Go.Sx
set_option linter.unusedVariables false
theorem of_same {P : Program} {f : FuncId} {args : Array Value} {b : Bool} {w : World} (h : Calls P f args w (Same (isB b) w)) : Calls P f args w fun e w' => e = .returned (.bool b) ∧ Below w.heap.size w w' :=
  h.mono fun e w' ⟨v, he, hv, hw⟩ => ⟨by rw [he, hv], by subst hw; exact Below.refl _ _⟩
theorem of_drew {P : Program} {f : FuncId} {args : Array Value} {b : Bool} {w : World} (h : Calls P f args w (Drew (isB b) w)) : Calls P f args w fun e w' => e = .returned (.bool b) ∧ Below w.heap.size w w' :=
  h.mono fun e w' ⟨v, n, he, hv, hw⟩ => ⟨by rw [he, hv], by rw [← hw]; exact below_draws (Below.refl _ _) n⟩
theorem of_drew2 {P : Program} {f : FuncId} {args : Array Value} {b : Bool} {w : World} (h : Calls P f args w (Drew' (isB b) w)) : Calls P f args w fun e w' => e = .returned (.bool b) ∧ Below w.heap.size w w' :=
  h.mono fun e w' ⟨v, n, he, hv, hw⟩ => ⟨by rw [he, hv], by rw [← hw]; exact below_draws (Below.refl _ _) n⟩
theorem of_gives {P : Program} {f : FuncId} {args : Array Value} {b : Bool} {w : World} (h : Calls P f args w (Gives (isB b) w)) : Calls P f args w fun e w' => e = .returned (.bool b) ∧ Below w.heap.size w w' :=
  h.mono fun e w' ⟨v, he, hv, hb⟩ => ⟨by rw [he, hv], hb⟩
theorem ofF_drew {P : Program} {f : FuncId} {args : Array Value} {x : V} {w : World} (h : Calls P f args w (Drew (isF x) w)) : Calls P f args w fun e w' => (∃ r, e = .returned (.float .f32 r) ∧ kcv .f32 r = x) ∧ Below w.heap.size w w' :=
  h.mono fun e w' ⟨v, n, he, ⟨r, hv, hr⟩, hw⟩ => ⟨⟨r, by rw [he, hv], hr⟩, by rw [← hw]; exact below_draws (Below.refl _ _) n⟩
theorem ofF_gives {P : Program} {f : FuncId} {args : Array Value} {x : V} {w : World} (h : Calls P f args w (Gives (isF x) w)) : Calls P f args w fun e w' => (∃ r, e = .returned (.float .f32 r) ∧ kcv .f32 r = x) ∧ Below w.heap.size w w' :=
  h.mono fun e w' ⟨v, he, ⟨r, hv, hr⟩, hb⟩ => ⟨⟨r, by rw [he, hv], hr⟩, hb⟩
theorem ofU_drew {P : Program} {f : FuncId} {args : Array Value} {n : Nat} {w : World} (h : Calls P f args w (Drew (isU n) w)) : Calls P f args w fun e w' => e = .returned (.int .u32 n) ∧ Below w.heap.size w w' :=
  h.mono fun e w' ⟨v, m, he, hv, hw⟩ => ⟨by rw [he, hv], by rw [← hw]; exact below_draws (Below.refl _ _) m⟩
theorem bitsN_eq (x : V) : bitsN x = bitsV x := rfl
noncomputable def sums : List (FuncId × SumF) := [(109, sum1b 12), (64, sum1b 12), (84, sum1b 14), (83, sum1b 13), (79, sum1b 35), (75, sum1b 35), (118, sum1f 15), (108, sumLen), (22, sumEq64)]
theorem follows : Try.prog.follows .mixedOrders = true := by kernel_rfl
theorem sums_ok (env : Nat → Sc) : ∀ x ∈ sums, SumOk1 env Try.prog x.1 x.2 := by
  intro x hx
  unfold sums at hx
  rcases List.mem_cons.1 hx with rfl | hx
  · exact sum1b_ok (fun x w => of_same (isFinite_any x w)) (fun _ _ => rfl)
  rcases List.mem_cons.1 hx with rfl | hx
  · exact sum1b_ok (fun x w => of_drew (l01Finite_any x w)) (fun _ _ => rfl)
  rcases List.mem_cons.1 hx with rfl | hx
  · exact sum1b_ok (fun x w => of_drew (isTooSmall_any x w)) (fun _ _ => rfl)
  rcases List.mem_cons.1 hx with rfl | hx
  · exact sum1b_ok (fun x w => of_same (l01Small_any x w)) (fun _ _ => rfl)
  rcases List.mem_cons.1 hx with rfl | hx
  · exact sum1b_ok (fun x w => of_same (IsPlainI x w)) (fun _ _ => rfl)
  rcases List.mem_cons.1 hx with rfl | hx
  · exact sum1b_ok (fun x w => of_same (l01Plain_any x w)) (fun _ _ => rfl)
  rcases List.mem_cons.1 hx with rfl | hx
  · exact sum1f_ok (fun x w => ofF_drew (l01Root_any x w)) (fun _ _ => rfl)
  rcases List.mem_cons.1 hx with rfl | hx
  · exact sumLen_ok (fun x0 x1 x2 w => ofF_gives (length_any x0 x1 x2 w))
  rcases List.mem_cons.1 hx with rfl | hx
  · exact sumEq64_ok (fun x y w h => of_drew2 (sameFloat_gives x y h w))
  cases hx
theorem sums_ext (env : Nat → Sc) : ∀ x ∈ sums, SumExt1 env x.2 := by
  intro x hx
  unfold sums at hx
  rcases List.mem_cons.1 hx with rfl | hx
  · exact sum1b_ext
  rcases List.mem_cons.1 hx with rfl | hx
  · exact sum1b_ext
  rcases List.mem_cons.1 hx with rfl | hx
  · exact sum1b_ext
  rcases List.mem_cons.1 hx with rfl | hx
  · exact sum1b_ext
  rcases List.mem_cons.1 hx with rfl | hx
  · exact sum1b_ext
  rcases List.mem_cons.1 hx with rfl | hx
  · exact sum1b_ext
  rcases List.mem_cons.1 hx with rfl | hx
  · exact sum1f_ext
  rcases List.mem_cons.1 hx with rfl | hx
  · exact sumLen_ext
  rcases List.mem_cons.1 hx with rfl | hx
  · exact sumEq64_ext
  cases hx
end Go.Proofs.Ytndbopccjkiagad
