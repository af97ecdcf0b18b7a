/- Contracts: lists of pairs compared. -/
import Derived.Deep.RegionHeld3
import Derived.Test.YtohmomcgdjpnoaaLstB
import Derived.Test.YtohmomcgdjpnoaaSxS
namespace Go.Proofs.Ytohmomcgdjpnoaa
open Go.RowKit Go.Flo Go.Mem
set_option linter.unusedSimpArgs false
set_option linter.unusedVariables false
section
open Go.Sx
structure CkE (t : Tb) : Prop where
  out : check Try.prog sums 60 30 28 [.p (.agg [.f32 0, .f32 1]), .p (.agg [.f32 0, .f32 1])] topN t = true
set_option maxRecDepth 100000 in
set_option maxHeartbeats 100000000 in
theorem checkedE : CkE (⟨2, vars 2, [], []⟩) := ⟨by kernel_rfl⟩
theorem eqF2 (x0 x1 : Nat) (w : World) : Calls Try.prog 28 #[.agg #[.float .f32 x0, .float .f32 x1], .agg #[.float .f32 x0, .float .f32 x1]] w (Gives (isB true) w) := by
  have h : Holds (envOf [.f (kcv .f32 x0), .f (kcv .f32 x1)]) Try.prog 28 [.p (.agg [.f32 0, .f32 1]), .p (.agg [.f32 0, .f32 1])] ⟨2, vars 2, [], []⟩ := (check_holds follows (sums_ok _) (sums_ext _) checkedE.out)
  exact h (vars_wf 2) (fun x hx => (by cases hx)) [.agg #[.float .f32 x0, .float .f32 x1], .agg #[.float .f32 x0, .float .f32 x1]] (.cons ⟨_, rfl, (.cons (var_f32 rfl rfl) (.cons (var_f32 rfl rfl) .nil))⟩ (.cons ⟨_, rfl, (.cons (var_f32 rfl rfl) (.cons (var_f32 rfl rfl) .nil))⟩ .nil)) w
end
set_option maxHeartbeats 1000000 in
theorem szF2S (v : Value) (ps : List (Nat × Nat)) (w : World) (hP : Pls w v ps) (hc : ps.length < 2 ^ 63) :
    Calls Try.prog 32 #[v, .int .i64 1048576] w (Gives (fun v => v = .int .i64 (if ps.length ≤ 1048576 then 1048576 - (ps.length : Int) else -1)) w) := by
  obtain ⟨a, c, rfl, _⟩ := hP
  by_cases h : ps.length ≤ 1048576
  · rw [if_pos h]
    have h1 : ¬ ((1048576 : Int) - (ps.length : Int) < 0) := by omega
    have h2 : (wrap64 ((1048576 : Int) - (ps.length : Int))) = 1048576 - (ps.length : Int) := by unfold wrap64; omega
    go_enter Try.func32, Try.ntmps32
    go_wp2_with fail
    all_goals
      simp [bodyPost, results, Try.results32, go_sem]
    exact ⟨_, rfl, rfl, Below.refl _ _⟩
  · rw [if_neg h]
    have h1 : ((1048576 : Int) - (ps.length : Int) < 0) := by omega
    have h2 : (wrap64 ((1048576 : Int) - (ps.length : Int))) = 1048576 - (ps.length : Int) := by unfold wrap64; omega
    go_enter Try.func32, Try.ntmps32
    go_wp2_with fail
    all_goals
      simp [bodyPost, results, Try.results32, go_sem]
    exact ⟨_, rfl, rfl, Below.refl _ _⟩
set_option maxRecDepth 20000 in
set_option maxHeartbeats 4000000 in
theorem eqF2S (v u : Value) (ps : List (Nat × Nat)) (w : World) (hP : Pls w v ps) (hQ : Pls w u ps) (hn : ps.length ≤ 1048576) :
    Calls Try.prog 37 #[v, u] w (Gives (isB true) w) := by
  have hP' := hP
  have hQ' := hQ
  obtain ⟨a, c, rfl, _⟩ := hP
  obtain ⟨a2, c2, rfl, _⟩ := hQ
  go_enter Try.func37, Try.ntmps37
  go_wp2_with fail
  go_loopg [5] ps.length (fun k s5 wr => ∃ (i : Nat), s5 = .int .i64 i ∧ i + k = ps.length ∧ Below w.heap.size w wr)
  · exact ⟨0, rfl, by omega, Below.refl _ _⟩
  · obtain ⟨i, rfl, hik, HB⟩ := hrel
    have B : Aside (i + gk = ps.length ∧ Below w.heap.size w wr ∧ ps.length ≤ 1048576) := ⟨hik, HB, hn⟩
    by_cases hi : i < ps.length
    · obtain ⟨b, c1, p, e1, hp, hc0, hc1⟩ := (hP'.below HB).at hi
      obtain ⟨b2, c3, q, e2, hq, hd0, hd1⟩ := (hQ'.below HB).at hi
      cases e1; cases e2
      obtain rfl : p = q := Option.some.inj (hp.symm.trans hq)
      have hi' : (i : Int) < (ps.length : Int) := by omega
      have C : Aside ((((b.add (i * 2)).block < wr.heap.size ∧ wr.cell? (b.add (i * 2)) = some (.float .f32 p.1)) ∧ (((b.add (i * 2)).add 1).block < wr.heap.size ∧ wr.cell? ((b.add (i * 2)).add 1) = some (.float .f32 p.2)))) := ⟨hc0, hc1⟩
      have D : Aside ((((b2.add (i * 2)).block < wr.heap.size ∧ wr.cell? (b2.add (i * 2)) = some (.float .f32 p.1)) ∧ (((b2.add (i * 2)).add 1).block < wr.heap.size ∧ wr.cell? ((b2.add (i * 2)).add 1) = some (.float .f32 p.2)))) := ⟨hd0, hd1⟩
      clear hc0 hc1 hd0 hd1 hp hq hik hP' hQ' HB
      go_wp2_with (first
        | (refine wpList_idx rfl rfl (by kernel_rfl) (by kernel_rfl) rfl rfl (Int.natCast_nonneg _) hi' ?_; simp only [Int.toNat_natCast])
        | (refine wpList_pair rfl rfl (by kernel_rfl) rfl (cell_later (Below.refl _ _) C.out.1) (cell_later (Below.refl _ _) C.out.2) ?_)
        | (refine wpList_pair rfl rfl (by kernel_rfl) rfl (cell_later (Below.refl _ _) D.out.1) (cell_later (Below.refl _ _) D.out.2) ?_)
        | (go_at_call 28; refine (eqF2 _ _ _).mono ?_; rintro e w' ⟨_, rfl, eb, hb⟩; cases eb; have hb' : Aside _ := hb; clear hb))
      have hi0 : (0 : Int) ≤ (i : Int) := Int.natCast_nonneg _
      have hK : ∀ W, Below wr.heap.size wr W → W.cell? (b.add (i * 2)) = some (.float .f32 p.1) ∧ W.cell? ⟨(b.add (i * 2)).block, (b.add (i * 2)).off + 1, none⟩ = some (.float .f32 p.2) ∧ W.cell? (b2.add (i * 2)) = some (.float .f32 p.1) ∧ W.cell? ⟨(b2.add (i * 2)).block, (b2.add (i * 2)).off + 1, none⟩ = some (.float .f32 p.2) ∧ Below wr.heap.size wr W := fun W hW => ⟨cell_later hW C.out.1, cell_later hW C.out.2, cell_later hW D.out.1, cell_later hW D.out.2, hW⟩
      go_region_held3 (fun W => W.cell? (b.add (i * 2)) = some (.float .f32 p.1) ∧ W.cell? ⟨(b.add (i * 2)).block, (b.add (i * 2)).off + 1, none⟩ = some (.float .f32 p.2) ∧ W.cell? (b2.add (i * 2)) = some (.float .f32 p.1) ∧ W.cell? ⟨(b2.add (i * 2)).block, (b2.add (i * 2)).off + 1, none⟩ = some (.float .f32 p.2) ∧ Below wr.heap.size wr W) (first | exact hK _ (Below.refl _ _) | exact hK _ (Below.drew (Below.refl _ _)) | exact hK _ (Below.drew (And.right (And.right (And.right (And.right (by assumption)))))) | exact hK _ (below_step hb (And.right (And.right (And.right (And.right (by assumption)))))) | exact hK _ (below_step hb (Below.drew (And.right (And.right (And.right (And.right (by assumption))))))) | go_keep) (first | (go_at_call 28; refine (eqF2 _ _ _).mono ?_; rintro e w' ⟨_, rfl, eb, hb⟩; cases eb))
      all_goals go_wp2_with fail
      all_goals
        obtain ⟨hik, HB, hn'⟩ := B.out
        go_roundg (gk - 1)
        · refine ⟨i + 1, ?_, by omega, below_step (And.right (And.right (And.right (And.right (by assumption))))) HB⟩
          first
            | (congr 1; done)
            | (congr 1; unfold wrap64; omega)
        · omega
    · have hi' : ¬ ((i : Int) < (ps.length : Int)) := by omega
      clear hP' hQ'
      go_wp2_with fail
      simp [bodyPost, results, Try.results37, go_sem]
      exact ⟨_, rfl, rfl, HB⟩
end Go.Proofs.Ytohmomcgdjpnoaa
