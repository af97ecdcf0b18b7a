/- Contracts: valid strokes. -/
import Derived.Test.YtbhbdpcefgledaaMrkB
import Derived.Test.YtbhbdpcefgledaaMrkO
namespace Go.Proofs.Ytbhbdpcefgledaa
--## d
open Go.RowKit Go.Mem
set_option linter.unusedSimpArgs false
set_option linter.unusedVariables false
set_option maxRecDepth 20000
--## d
def okS (a b c d e : Int) : Bool := okM a b && okM c d && okD e
--## d
theorem rls_two {w : World} {g : Nat} {a b c d : Int} {k : Nat} (hg : g < w.heap.size) (h0 : w.cell? ⟨g, 0, none⟩ = some (.int .i16 a)) (h1 : w.cell? ⟨g, 1, none⟩ = some (.int .i16 b)) (h2 : w.cell? ⟨g, 2, none⟩ = some (.int .i16 c)) (h3 : w.cell? ⟨g, 3, none⟩ = some (.int .i16 d)) : Rls 2 w (.slice (some ⟨g, 0, none⟩) 2 k) (rM [(a, b), (c, d)]) := by
  refine ⟨some ⟨g, 0, none⟩, k, rfl, fun j r hr => ⟨⟨g, 0, none⟩, rfl, hg, fun i x hx => ?_⟩⟩
  match j, hr with
  | 0, hr =>
    simp [rM] at hr; subst hr
    match i, hx with
    | 0, hx => simp at hx; subst hx; exact h0
    | 1, hx => simp at hx; subst hx; exact h1
  | 1, hr =>
    simp [rM] at hr; subst hr
    match i, hx with
    | 0, hx => simp at hx; subst hx; exact h2
    | 1, hx => simp at hx; subst hx; exact h3
--## d
set_option maxHeartbeats 2000000 in
theorem ValidStrokeI (a b c d e : Int) (ha : I16 a) (hb : I16 b) (hc : I16 c) (hd : I16 d) (he : I8 e) (w : World) : Calls Try.prog 69 #[st a b c d e] w (Gives (isB (okS a b c d e)) w) := by
  have HL : allM [(a, b), (c, d)] = (okM a b && okM c d) := by simp [allM]
  cases hq : (okM a b && okM c d)
  all_goals
    have hz : okS a b c d e = (okM a b && okM c d && okD e) := rfl
    rw [hq] at HL hz
    rw [hz]
    clear hz hq
    go_enter Try.func69, Try.ntmps69
    go_wp2_with (first | (go_at_call 32; refine (validMarksA _ [(a, b), (c, d)] _ (rls_two (by simp) (by simp [go_sem]) (by simp [go_sem]) (by simp [go_sem]) (by simp [go_sem])) (by simp)).mono ?_; rw [HL]; rintro e w' ⟨_, rfl, rfl, hb⟩; obtain ⟨hc, hf⟩ := bcell hb; (try simp at hc hf); have hs := hb.size; (try simp at hs); have hz0 : w.heap.size < w'.heap.size := (by omega); have HB := Lib.hid hb; clear hb hs) | (go_at_call 87; refine (isDashA _ _).mono ?_; rintro e w' ⟨_, rfl, rfl, rfl⟩))
    all_goals
      simp [bodyPost, results, Try.results69, go_sem, *]
      exact ⟨_, rfl, by simp [isB], below_step HB.out (below_alloc (below_alloc (Below.refl _ _)))⟩
--## d
end Go.Proofs.Ytbhbdpcefgledaa
