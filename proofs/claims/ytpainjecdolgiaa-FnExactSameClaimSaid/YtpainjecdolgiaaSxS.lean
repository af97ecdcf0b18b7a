/- Known contracts of functions that reckon with single numbers, for the symbolic evaluator. -/
import Derived.Test.YtpainjecdolgiaaSxJ
import Derived.Test.YtpainjecdolgiaaPtC
import Derived.Test.YtpainjecdolgiaaPtM
import Derived.Test.YtpainjecdolgiaaPtT
import Derived.Test.YtpainjecdolgiaaLawA





namespace Go.Proofs.Ytpainjecdolgiaa
open Go.RowKit Go.Flo Go.Mem Go.Inv Go.Sx
set_option linter.unusedVariables false
theorem of_same {P : Program} {f : FuncId} {args : Array Value} {b : Bool} {w : World} (h : Calls P f args w (Same (isB b) w)) : Calls P f args w fun e w' => e = .returned (.bool b) ∧ Below w.heap.size w w' :=
  h.mono fun e w' ⟨v, he, hv, hw⟩ => ⟨by rw [he, hv], by subst hw; exact Below.refl _ _⟩
theorem of_drew {P : Program} {f : FuncId} {args : Array Value} {b : Bool} {w : World} (h : Calls P f args w (Drew (isB b) w)) : Calls P f args w fun e w' => e = .returned (.bool b) ∧ Below w.heap.size w w' :=
  h.mono fun e w' ⟨v, n, he, hv, hw⟩ => ⟨by rw [he, hv], by rw [← hw]; exact below_draws (Below.refl _ _) n⟩
theorem of_drew2 {P : Program} {f : FuncId} {args : Array Value} {b : Bool} {w : World} (h : Calls P f args w (Drew' (isB b) w)) : Calls P f args w fun e w' => e = .returned (.bool b) ∧ Below w.heap.size w w' :=
  h.mono fun e w' ⟨v, n, he, hv, hw⟩ => ⟨by rw [he, hv], by rw [← hw]; exact below_draws (Below.refl _ _) n⟩
theorem of_gives {P : Program} {f : FuncId} {args : Array Value} {b : Bool} {w : World} (h : Calls P f args w (Gives (isB b) w)) : Calls P f args w fun e w' => e = .returned (.bool b) ∧ Below w.heap.size w w' :=
  h.mono fun e w' ⟨v, he, hv, hb⟩ => ⟨by rw [he, hv], hb⟩
theorem of64w_same {P : Program} {f : FuncId} {args : Array Value} {x : V} {w : World} (h : Calls P f args w (Same (is64w x) w)) : Calls P f args w fun e w' => (∃ r, e = .returned (.float .f64 r) ∧ kcv .f64 r = x ∧ r < 2 ^ FloatKind.f64.format.width) ∧ Below w.heap.size w w' :=
  h.mono fun e w' ⟨v, he, ⟨r, hv, hr, hb⟩, hw⟩ => ⟨⟨r, by rw [he, hv], hr, hb⟩, by subst hw; exact Below.refl _ _⟩
theorem ofF_same {P : Program} {f : FuncId} {args : Array Value} {x : V} {w : World} (h : Calls P f args w (Same (isF x) w)) : Calls P f args w fun e w' => (∃ r, e = .returned (.float .f32 r) ∧ kcv .f32 r = x) ∧ Below w.heap.size w w' :=
  h.mono fun e w' ⟨v, he, ⟨r, hv, hr⟩, hw⟩ => ⟨⟨r, by rw [he, hv], hr⟩, by subst hw; exact Below.refl _ _⟩
theorem of64_same {P : Program} {f : FuncId} {args : Array Value} {x : V} {w : World} (h : Calls P f args w (Same (is64 x) w)) : Calls P f args w fun e w' => (∃ r, e = .returned (.float .f64 r) ∧ kcv .f64 r = x) ∧ Below w.heap.size w w' :=
  h.mono fun e w' ⟨v, he, ⟨r, hv, hr⟩, hw⟩ => ⟨⟨r, by rw [he, hv], hr⟩, by subst hw; exact Below.refl _ _⟩
theorem ofF_drew {P : Program} {f : FuncId} {args : Array Value} {x : V} {w : World} (h : Calls P f args w (Drew (isF x) w)) : Calls P f args w fun e w' => (∃ r, e = .returned (.float .f32 r) ∧ kcv .f32 r = x) ∧ Below w.heap.size w w' :=
  h.mono fun e w' ⟨v, n, he, ⟨r, hv, hr⟩, hw⟩ => ⟨⟨r, by rw [he, hv], hr⟩, by rw [← hw]; exact below_draws (Below.refl _ _) n⟩
theorem ofF_gives {P : Program} {f : FuncId} {args : Array Value} {x : V} {w : World} (h : Calls P f args w (Gives (isF x) w)) : Calls P f args w fun e w' => (∃ r, e = .returned (.float .f32 r) ∧ kcv .f32 r = x) ∧ Below w.heap.size w w' :=
  h.mono fun e w' ⟨v, he, ⟨r, hv, hr⟩, hb⟩ => ⟨⟨r, by rw [he, hv], hr⟩, hb⟩
theorem ofU_drew {P : Program} {f : FuncId} {args : Array Value} {n : Nat} {w : World} (h : Calls P f args w (Drew (isU n) w)) : Calls P f args w fun e w' => e = .returned (.int .u32 n) ∧ Below w.heap.size w w' :=
  h.mono fun e w' ⟨v, m, he, hv, hw⟩ => ⟨by rw [he, hv], by rw [← hw]; exact below_draws (Below.refl _ _) m⟩
theorem bitsN_eq (x : V) : bitsN x = bitsV x := rfl
noncomputable def sums : List (FuncId × SumF) := [(37, sumBits), (20, sumSame), (35, sumSame), (19, sumSame3), (23, sumEq64)]
theorem follows : Try.prog.follows .mixedOrders = true := by kernel_rfl
theorem sums_ok (env : Nat → Sc) : ∀ x ∈ sums, SumOk1 env Try.prog x.1 x.2 := by
  intro x hx
  unfold sums at hx
  rcases List.mem_cons.1 hx with rfl | hx
  · exact sumBits_ok (fun x w => ofU_drew (bitsOf_any x w))
  rcases List.mem_cons.1 hx with rfl | hx
  · exact sumSame_ok (fun x y w => by rw [bitsN_eq, bitsN_eq, intBeq]; exact of_drew2 (SameNumberI x y w))
  rcases List.mem_cons.1 hx with rfl | hx
  · exact sumSame_ok (fun x y w => by rw [bitsN_eq, bitsN_eq, intBeq]; exact of_same (l01Same_any x y w))
  rcases List.mem_cons.1 hx with rfl | hx
  · exact sumSame3_ok (fun x0 x1 x2 y0 y1 y2 w => by simp only [bitsN_eq, intBeq]; rw [← Bool.and_assoc]; exact of_gives (SamePointI x0 x1 x2 y0 y1 y2 w))
  rcases List.mem_cons.1 hx with rfl | hx
  · exact sumEq64_ok (fun x y w h => of_drew2 (sameFloat_gives x y h w))
  cases hx
theorem sums_ext (env : Nat → Sc) : ∀ x ∈ sums, SumExt1 env x.2 := by
  intro x hx
  unfold sums at hx
  rcases List.mem_cons.1 hx with rfl | hx
  · exact sumBits_ext
  rcases List.mem_cons.1 hx with rfl | hx
  · exact sumSame_ext
  rcases List.mem_cons.1 hx with rfl | hx
  · exact sumSame_ext
  rcases List.mem_cons.1 hx with rfl | hx
  · exact sumSame3_ext
  rcases List.mem_cons.1 hx with rfl | hx
  · exact sumEq64_ext
  cases hx
end Go.Proofs.Ytpainjecdolgiaa
