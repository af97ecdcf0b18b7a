/- Arguments of a law, opened: lists of strokes, marks, numbers, truths. -/
import Derived.Test.YtbhbdpcefgledaaWayA
import Derived.Test.YtbhbdpcefgledaaLskB
import Derived.Test.YtbhbdpcefgledaaLskC
import Derived.Test.YtbhbdpcefgledaaOpn
namespace Go.Proofs.Ytbhbdpcefgledaa
--## d
open Go.ChangeShapes Go.WideShapes Go.ChangeAt Go.RowKit Go.Flo Go.Mem
set_option linter.unusedSimpArgs false
set_option linter.unusedVariables false
set_option maxRecDepth 20000
--## d
theorem rows_map {α : Type} {f : α → List Value} {W : α → Prop} : ∀ {rs : List (List Value)}, (∀ r ∈ rs, ∃ z, r = f z ∧ W z) → ∃ zs : List α, rs = zs.map f ∧ ∀ z ∈ zs, W z
  | [], _ => ⟨[], rfl, fun z hz => (by cases hz)⟩
  | r :: rs, h => by
    obtain ⟨z, hz, hw⟩ := h r (by simp)
    obtain ⟨zs, hzs, hws⟩ := rows_map (rs := rs) (fun x hx => h x (by simp [hx]))
    refine ⟨z :: zs, by rw [hz, hzs]; rfl, fun y hy => ?_⟩
    rcases List.mem_cons.1 hy with rfl | hy
    · exact hw
    · exact hws y hy
--## d
section
--## d
variable {H : Type} {enc : TypeId × Value → H} {w : World} {base : Nat} {spare : Nat → Bool} {held : Bool}
--## d
theorem cell_bool {P : Program} {n : Nat} {e : TypeId} {c : Value} {y : DataW H × List MemPlace} (he : P.underlying e = some .bool) (h : DataW.trod enc P w base spare held n e [c] = some y) : ∃ b, c = .bool b := by
  cases n with
  | zero => simp [DataW.trod] at h
  | succ n =>
    unfold DataW.trod at h
    simp only [he] at h
    cases c <;> simp_all
--## d
theorem open_strokes {r : Reach} {b0 : Nat} {v : Value} {d : DataW H} {ms : List MemPlace} (hval : Value.okWide Try.prog w r b0 35 v) (hd : DataW.Trod enc Try.prog w base spare held 35 v d ms) : ∃ zs : List S5, Rls 5 w v (rK zs) ∧ (∀ s ∈ zs, wfK s) ∧ zs.length ≤ maxLen := by
  obtain ⟨rs, hP, hR, hl⟩ := open_rows (fun cs => ∃ z : S5, cs = [.int .i16 z.1, .int .i16 z.2.1, .int .i16 z.2.2.1, .int .i16 z.2.2.2.1, .int .i8 z.2.2.2.2] ∧ wfK z) Try.underlying35 (n := 5) (by kernel_rfl) (by decide) hval hd (fun cs y m hcs ht => by
    match cs, hcs with
    | [c0, c1, c2, c3, c4], _ =>
      obtain ⟨a, b, c, d, e, he, h⟩ := trod_stroke ht
      exact ⟨(a, b, c, d, e), he, h⟩)
  obtain ⟨zs, rfl, hw⟩ := rows_map (fun r hr => (hR r hr).2)
  exact ⟨zs, hP, hw, by simpa using hl⟩
--## d
theorem open_marks {r : Reach} {b0 : Nat} {v : Value} {d : DataW H} {ms : List MemPlace} (hval : Value.okWide Try.prog w r b0 24 v) (hd : DataW.Trod enc Try.prog w base spare held 24 v d ms) : ∃ zs : List (Int × Int), Rls 2 w v (rM zs) ∧ (∀ s ∈ zs, I16 s.1 ∧ I16 s.2) ∧ zs.length ≤ maxLen := by
  obtain ⟨rs, hP, hR, hl⟩ := open_rows (fun cs => ∃ z : Int × Int, cs = [.int .i16 z.1, .int .i16 z.2] ∧ (I16 z.1 ∧ I16 z.2)) Try.underlying24 (n := 2) (by kernel_rfl) (by decide) hval hd (fun cs y m hcs ht => by
    match cs, hcs with
    | [c0, c1], _ =>
      cases m with
      | zero => simp [DataW.trod] at ht
      | succ m =>
        obtain ⟨_, _, _, h0, h1⟩ := trod_ints2 Try.underlying37 (by kernel_rfl) ht
        obtain ⟨x0, rfl, g0⟩ := cell_int Try.underlying36 h0
        obtain ⟨x1, rfl, g1⟩ := cell_int Try.underlying36 h1
        exact ⟨(x0, x1), rfl, i16_wf g0, i16_wf g1⟩)
  obtain ⟨zs, rfl, hw⟩ := rows_map (fun r hr => (hR r hr).2)
  exact ⟨zs, hP, hw, by simpa using hl⟩
--## d
theorem open_i64s {r : Reach} {b0 : Nat} {v : Value} {d : DataW H} {ms : List MemPlace} (hval : Value.okWide Try.prog w r b0 39 v) (hd : DataW.Trod enc Try.prog w base spare held 39 v d ms) : ∃ zs : List Int, Rls 1 w v (rJ zs) ∧ (∀ s ∈ zs, I64 s) ∧ zs.length ≤ maxLen := by
  obtain ⟨rs, hP, hR, hl⟩ := open_rows (fun cs => ∃ z : Int, cs = [.int .i64 z] ∧ I64 z) Try.underlying39 (n := 1) (by kernel_rfl) (by decide) hval hd (fun cs y m hcs ht => by
    match cs, hcs with
    | [c0], _ =>
      obtain ⟨x0, rfl, g0⟩ := cell_int Try.underlying2 ht
      exact ⟨x0, rfl, i64_wf g0⟩)
  obtain ⟨zs, rfl, hw⟩ := rows_map (fun r hr => (hR r hr).2)
  exact ⟨zs, hP, hw, by simpa using hl⟩
--## d
theorem open_bools {r : Reach} {b0 : Nat} {v : Value} {d : DataW H} {ms : List MemPlace} (hval : Value.okWide Try.prog w r b0 40 v) (hd : DataW.Trod enc Try.prog w base spare held 40 v d ms) : ∃ zs : List Bool, Rls 1 w v (rB zs) ∧ (∀ s ∈ zs, True) ∧ zs.length ≤ maxLen := by
  obtain ⟨rs, hP, hR, hl⟩ := open_rows (fun cs => ∃ z : Bool, cs = [.bool z] ∧ True) Try.underlying40 (n := 1) (by kernel_rfl) (by decide) hval hd (fun cs y m hcs ht => by
    match cs, hcs with
    | [c0], _ =>
      obtain ⟨x0, rfl⟩ := cell_bool Try.underlying4 ht
      exact ⟨x0, rfl, trivial⟩)
  obtain ⟨zs, rfl, hw⟩ := rows_map (fun r hr => (hR r hr).2)
  exact ⟨zs, hP, hw, by simpa using hl⟩
--## d
end
--## d
end Go.Proofs.Ytbhbdpcefgledaa
