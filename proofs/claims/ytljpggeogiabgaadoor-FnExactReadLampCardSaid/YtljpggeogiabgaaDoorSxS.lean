/- Known contracts of functions that reckon with single numbers, for the symbolic evaluator. -/
import Derived.Test.YtljpggeogiabgaaDoorSxJ
import Derived.Test.YtljpggeogiabgaaDoorPtC
import Derived.Test.YtljpggeogiabgaaDoorPtM
import Derived.Test.YtljpggeogiabgaaDoorPtT
import Derived.Test.YtljpggeogiabgaaDoorLawA





namespace Go.Proofs.YtljpggeogiabgaaDoor
open Go.RowKit Go.Flo Go.Mem Go.Inv Go.Sx
set_option linter.unusedVariables false
theorem of_same {P : Program} {f : FuncId} {args : Array Value} {b : Bool} {w : World} (h : Calls P f args w (Same (isB b) w)) : Calls P f args w fun e w' => e = .returned (.bool b) ∧ Below w.heap.size w w' :=
  h.mono fun e w' ⟨v, he, hv, hw⟩ => ⟨by rw [he, hv], by subst hw; exact Below.refl _ _⟩
theorem of_drew {P : Program} {f : FuncId} {args : Array Value} {b : Bool} {w : World} (h : Calls P f args w (Drew (isB b) w)) : Calls P f args w fun e w' => e = .returned (.bool b) ∧ Below w.heap.size w w' :=
  h.mono fun e w' ⟨v, n, he, hv, hw⟩ => ⟨by rw [he, hv], by rw [← hw]; exact below_draws (Below.refl _ _) n⟩
theorem of_drew2 {P : Program} {f : FuncId} {args : Array Value} {b : Bool} {w : World} (h : Calls P f args w (Drew' (isB b) w)) : Calls P f args w fun e w' => e = .returned (.bool b) ∧ Below w.heap.size w w' :=
  h.mono fun e w' ⟨v, n, he, hv, hw⟩ => ⟨by rw [he, hv], by rw [← hw]; exact below_draws (Below.refl _ _) n⟩
theorem of_gives {P : Program} {f : FuncId} {args : Array Value} {b : Bool} {w : World} (h : Calls P f args w (Gives (isB b) w)) : Calls P f args w fun e w' => e = .returned (.bool b) ∧ Below w.heap.size w w' :=
  h.mono fun e w' ⟨v, he, hv, hb⟩ => ⟨by rw [he, hv], hb⟩
theorem of64w_same {P : Program} {f : FuncId} {args : Array Value} {x : V} {w : World} (h : Calls P f args w (Same (is64w x) w)) : Calls P f args w fun e w' => (∃ r, e = .returned (.float .f64 r) ∧ kcv .f64 r = x ∧ r < 2 ^ FloatKind.f64.format.width) ∧ Below w.heap.size w w' :=
  h.mono fun e w' ⟨v, he, ⟨r, hv, hr, hb⟩, hw⟩ => ⟨⟨r, by rw [he, hv], hr, hb⟩, by subst hw; exact Below.refl _ _⟩
theorem ofF_same {P : Program} {f : FuncId} {args : Array Value} {x : V} {w : World} (h : Calls P f args w (Same (isF x) w)) : Calls P f args w fun e w' => (∃ r, e = .returned (.float .f32 r) ∧ kcv .f32 r = x) ∧ Below w.heap.size w w' :=
  h.mono fun e w' ⟨v, he, ⟨r, hv, hr⟩, hw⟩ => ⟨⟨r, by rw [he, hv], hr⟩, by subst hw; exact Below.refl _ _⟩
theorem of64_same {P : Program} {f : FuncId} {args : Array Value} {x : V} {w : World} (h : Calls P f args w (Same (is64 x) w)) : Calls P f args w fun e w' => (∃ r, e = .returned (.float .f64 r) ∧ kcv .f64 r = x) ∧ Below w.heap.size w w' :=
  h.mono fun e w' ⟨v, he, ⟨r, hv, hr⟩, hw⟩ => ⟨⟨r, by rw [he, hv], hr⟩, by subst hw; exact Below.refl _ _⟩
theorem ofF_drew {P : Program} {f : FuncId} {args : Array Value} {x : V} {w : World} (h : Calls P f args w (Drew (isF x) w)) : Calls P f args w fun e w' => (∃ r, e = .returned (.float .f32 r) ∧ kcv .f32 r = x) ∧ Below w.heap.size w w' :=
  h.mono fun e w' ⟨v, n, he, ⟨r, hv, hr⟩, hw⟩ => ⟨⟨r, by rw [he, hv], hr⟩, by rw [← hw]; exact below_draws (Below.refl _ _) n⟩
theorem ofF_gives {P : Program} {f : FuncId} {args : Array Value} {x : V} {w : World} (h : Calls P f args w (Gives (isF x) w)) : Calls P f args w fun e w' => (∃ r, e = .returned (.float .f32 r) ∧ kcv .f32 r = x) ∧ Below w.heap.size w w' :=
  h.mono fun e w' ⟨v, he, ⟨r, hv, hr⟩, hb⟩ => ⟨⟨r, by rw [he, hv], hr⟩, hb⟩
theorem ofU_drew {P : Program} {f : FuncId} {args : Array Value} {n : Nat} {w : World} (h : Calls P f args w (Drew (isU n) w)) : Calls P f args w fun e w' => e = .returned (.int .u32 n) ∧ Below w.heap.size w w' :=
  h.mono fun e w' ⟨v, m, he, hv, hw⟩ => ⟨by rw [he, hv], by rw [← hw]; exact below_draws (Below.refl _ _) m⟩
theorem bitsN_eq (x : V) : bitsN x = bitsV x := rfl
noncomputable def sums : List (FuncId × SumF) := [(64, sumAbs), (33, sum1b 13), (39, sumPt), (53, sumPt), (51, sum1b 14), (26, sum1b 13), (57, sum1b 35), (42, sum1b 35), (54, sum1f 15), (40, sumLen), (31, sumBits), (17, sumEq64)]
theorem follows : Tryd.prog.follows .mixedOrders = true := by kernel_rfl
theorem sums_ok (env : Nat → Sc) : ∀ x ∈ sums, SumOk1 env Tryd.prog x.1 x.2 := by
  intro x hx
  unfold sums at hx
  rcases List.mem_cons.1 hx with rfl | hx
  · exact sumAbs_ok (fun x hx w => of64w_same (Abs_anyW x hx w))
  rcases List.mem_cons.1 hx with rfl | hx
  · exact sum1b_ok (fun x w => of_drew (isSmall_any x w)) (fun _ _ => rfl)
  rcases List.mem_cons.1 hx with rfl | hx
  · exact sumPt_ok (fun x0 x1 x2 w => by rw [← Bool.and_assoc]; exact of_gives (ValidPointI x0 x1 x2 w))
  rcases List.mem_cons.1 hx with rfl | hx
  · exact sumPt_ok (fun x0 x1 x2 w => by rw [← Bool.and_assoc]; exact of_gives (l01Point_any x0 x1 x2 w))
  rcases List.mem_cons.1 hx with rfl | hx
  · exact sum1b_ok (fun x w => of_drew (isTooSmall_any x w)) (fun _ _ => rfl)
  rcases List.mem_cons.1 hx with rfl | hx
  · exact sum1b_ok (fun x w => of_same (l01Small_any x w)) (fun _ _ => rfl)
  rcases List.mem_cons.1 hx with rfl | hx
  · exact sum1b_ok (fun x w => of_same (IsPlainI x w)) (fun _ _ => rfl)
  rcases List.mem_cons.1 hx with rfl | hx
  · exact sum1b_ok (fun x w => of_same (l01Plain_any x w)) (fun _ _ => rfl)
  rcases List.mem_cons.1 hx with rfl | hx
  · exact sum1f_ok (fun x w => ofF_drew (l01Root_any x w)) (fun _ _ => rfl)
  rcases List.mem_cons.1 hx with rfl | hx
  · exact sumLen_ok (fun x0 x1 x2 w => ofF_gives (length_any x0 x1 x2 w))
  rcases List.mem_cons.1 hx with rfl | hx
  · exact sumBits_ok (fun x w => ofU_drew (bitsOf_any x w))
  rcases List.mem_cons.1 hx with rfl | hx
  · exact sumEq64_ok (fun x y w h => of_drew2 (sameFloat_gives x y h w))
  cases hx
theorem sums_ext (env : Nat → Sc) : ∀ x ∈ sums, SumExt1 env x.2 := by
  intro x hx
  unfold sums at hx
  rcases List.mem_cons.1 hx with rfl | hx
  · exact sumAbs_ext
  rcases List.mem_cons.1 hx with rfl | hx
  · exact sum1b_ext
  rcases List.mem_cons.1 hx with rfl | hx
  · exact sumPt_ext
  rcases List.mem_cons.1 hx with rfl | hx
  · exact sumPt_ext
  rcases List.mem_cons.1 hx with rfl | hx
  · exact sum1b_ext
  rcases List.mem_cons.1 hx with rfl | hx
  · exact sum1b_ext
  rcases List.mem_cons.1 hx with rfl | hx
  · exact sum1b_ext
  rcases List.mem_cons.1 hx with rfl | hx
  · exact sum1b_ext
  rcases List.mem_cons.1 hx with rfl | hx
  · exact sum1f_ext
  rcases List.mem_cons.1 hx with rfl | hx
  · exact sumLen_ext
  rcases List.mem_cons.1 hx with rfl | hx
  · exact sumBits_ext
  rcases List.mem_cons.1 hx with rfl | hx
  · exact sumEq64_ext
  cases hx
end Go.Proofs.YtljpggeogiabgaaDoor
