/- Functions that run a function value and answer a code where it panics with a small number. -/
import Derived.Test.YtkpfgonkbnbagabSxR
import Derived.Test.YtkpfgonkbnbagabPtC
import Derived.WalkKit
import Derived.Tactics
import Derived.Tactics2
import Derived.Defers
import Derived.Recover
import Derived.Stop.Asserts
namespace Go.Proofs.Ytkpfgonkbnbagab
open Go Go.RowKit Go.Flo Go.Mem Go.Sx
set_option linter.unusedSimpArgs false
set_option linter.unusedVariables false

--## shapes
theorem okG2 {v : Value} (h : okG 2 v) : ∃ a b, v = .agg #[.float .f32 a, .float .f32 b] := by
  rcases h with ⟨h, _⟩ | ⟨vs, hl, _, rfl, hf⟩
  · cases h
  · match vs, hl, hf with
    | [x, y], _, hf =>
      obtain ⟨a, rfl⟩ := hf x (by simp)
      obtain ⟨b, rfl⟩ := hf y (by simp)
      exact ⟨a, b, rfl⟩
theorem okG1 {v : Value} (h : okG 0 v) : ∃ a, v = .float .f32 a := by
  rcases h with ⟨_, h⟩ | ⟨vs, hl, h0, _, _⟩
  · exact h
  · omega
--## code 143
theorem codeI (u : Value) (w : World) : Calls Try.prog 143 #[u] w fun e w' => e = .returned (.int .i64 4) ∧ w' = w := by
  go_enter Try.func143, Try.ntmps143
  go_wp2
  simp [bodyPost, results, Try.results143, go_sem]
set_option maxRecDepth 100000 in
theorem run_code (u : Value) (w : World) : (callMethod (.iface 118 u) "loop.example/g01249/impl.code" #[]).run Try.prog w = .ok (.enter 143 #[u]) w := by
  rw [callMethod_run (f := 143) (by kernel_rfl)]
  exact Inv.run_callFunc_body (by kernel_rfl) _ _
--## spot 50
theorem spot_idle (p : Addr) (w : World) :
    CallsD Try.prog 94 #[.pointer (some p)] .returning w fun e u' w' => e = .returned (.tuple #[]) ∧ u' = .returning ∧ w' = w := by
  refine callsD_of_wpS Try.func94 rfl fun c₀ cs hu => ?_
  apply wpS_seq
  apply wpS_region
  simp [wpOpsS, go_sem, recoverD, hu, Try.ntmps94, Exit.thenS]
  apply wpS_seq
  apply wpS_seq
  apply wpS_region
  simp [wpOpsS, go_sem, Exit.thenS]
  refine wpS_cond (t := true) (by simp [Act.eval, Array.replicate]) ?_
  simp only [if_true]
  refine wpS_of_wp (wp_ret ?_)
  cases c₀
  simp_all [bodyPostS, results, Try.results94, Exit.thenS]
set_option maxRecDepth 100000 in
set_option maxHeartbeats 1000000 in
theorem spot_caught (p : Addr) (u : Value) (older : List PanicEntry) (x : Int) (w : World) (hc : w.cell? p = some (.int .i64 x)) (hz : w.frozen? p = false) :
    CallsD Try.prog 94 #[.pointer (some p)] (.panicking ({ v := .iface 118 u, recovered := false } :: older)) w fun e u' w' =>
      e = .returned (.tuple #[]) ∧ u' = .panicking ({ v := .iface 118 u, recovered := true } :: older) ∧ w' = (w.setCell p (.int .i64 4)).setCell p (.int .i64 4) := by
  refine callsD_of_wpS Try.func94 rfl fun c₀ cs hu => ?_
  show Code.wpS Try.prog _ _ { tmps := #[.pointer (some p), undef, undef, undef, undef, undef, undef, undef, undef, undef, undef, undef, undef, undef, undef], defers := [] } _ _
  apply wpS_seq
  apply wpS_region
  simp [wpOpsS, go_sem, recoverD, hu, Try.ntmps94, Exit.thenS]
  have hta : ∀ xT w, (Instr.typeAssert (.iface 118 u) xT 115 true).run Try.prog w = .ok (.tuple #[.iface 118 u, .bool true]) w := fun xT w => run_typeAssert_hasB Try.underlying115 (by kernel_rfl) u xT w
  have hcm := run_code u
  refine wpS_of_wp ?_
  go_wp2_with (go_at_call 143; refine (codeI _ _).mono ?_; rintro e w' ⟨rfl, rfl⟩)
  cases c₀
  simp_all [bodyPostS, results, Try.results94]
theorem spot_facts {W W2 : World} (h : Below ((W.alloc (.cells #[.float .f32 0, .float .f32 0] 25)).alloc (.cells #[.int .i64 0] 2)).heap.size ((W.alloc (.cells #[.float .f32 0, .float .f32 0] 25)).alloc (.cells #[.int .i64 0] 2)) W2) :
    W2.cell? ⟨W.heap.size, 0, none⟩ = some (.float .f32 0) ∧ W2.cell? ⟨W.heap.size, 1, none⟩ = some (.float .f32 0) ∧ W2.cell? ⟨W.heap.size + 1, 0, none⟩ = some (.int .i64 0) ∧
    W2.frozen? ⟨W.heap.size, 0, none⟩ = false ∧ W2.frozen? ⟨W.heap.size, 1, none⟩ = false ∧ W2.frozen? ⟨W.heap.size + 1, 0, none⟩ = false ∧ W.heap.size + 2 ≤ W2.heap.size := by
  obtain ⟨hc, hf⟩ := bcell h
  have hs := h.size
  simp [go_sem] at hs
  refine ⟨?_, ?_, ?_, ?_, ?_, ?_, by omega⟩
  · rw [hc _ _ (by simp [go_sem])]; simp [go_sem]
  · rw [hc _ _ (by simp [go_sem])]; simp [go_sem]
  · rw [hc _ _ (by simp [go_sem])]; simp [go_sem]
  · rw [hf _ _ (by simp [go_sem])]; simp [go_sem]
  · rw [hf _ _ (by simp [go_sem])]; simp [go_sem]
  · rw [hf _ _ (by simp [go_sem])]; simp [go_sem]
set_option maxRecDepth 100000 in
set_option maxHeartbeats 1000000 in
theorem spot_gd : GdOk Try.prog ⟨50, 2, .agg #[.float .f32 0, .float .f32 0], 118⟩ := by
  intro cl vs W R hb hcall hR
  have hcf : ∀ w, (callFunc cl vs.toArray).run Try.prog w = .ok (.enter cl vs.toArray) w := fun w => Inv.run_callFunc_body hb _ w
  have hmf : ∀ (fn : Fn) (first cap : Array Value) (w : World), (Instr.makeFunc fn first cap).run Try.prog w = .ok (.func fn first cap) w := fun _ _ _ _ => rfl
  go_enter_defers Try.func50, Try.ntmps50
  go_wp2_with (refine (hcall _ (below_alloc (below_alloc (Below.refl _ _)))).mono ?_; rintro e W2 hRe; obtain ⟨hbel, hor⟩ := hR _ _ _ hRe; obtain ⟨k0, k1, k2, f0, f1, f2, hsz⟩ := spot_facts hbel; have HR := Lib.hid hRe; clear hRe; rcases hor with ⟨v, rfl, hv⟩ | ⟨u, rfl⟩; first | (obtain ⟨a, b, rfl⟩ := okG2 hv) | skip)
  · refine leaves_cons (f := 94) (args := #[.pointer (some ⟨W.heap.size + 1, 0, none⟩)]) (by simp) (by simp [go_sem]) ?_
    refine (spot_idle ⟨W.heap.size + 1, 0, none⟩ _).mono ?_
    rintro e u' w'' ⟨rfl, rfl, rfl⟩
    simp [Leaves, settle, results, Try.results50, go_sem, k0, k1, k2, f0, f1, f2]
    have hB := below_step hbel (below_alloc (below_alloc (Below.refl W.heap.size W)))
    exact ⟨below_set (below_set (below_set hB (Nat.le_refl _)) (Nat.le_refl _)) (Nat.le_succ _), _, below_alloc (below_alloc (Below.refl _ _)), _, HR.out⟩
  · refine leaves_cons (f := 94) (args := #[.pointer (some ⟨W.heap.size + 1, 0, none⟩)]) (by simp) (by simp [go_sem]) ?_
    refine (spot_caught ⟨W.heap.size + 1, 0, none⟩ u [] 0 _ k2 f2).mono ?_
    rintro e u' w'' ⟨rfl, rfl, rfl⟩
    simp [Leaves, settle, results, Try.results50, go_sem, k0, k1, k2, f0, f1, f2]
    have hB := below_step hbel (below_alloc (below_alloc (Below.refl W.heap.size W)))
    exact ⟨below_set (below_set hB (Nat.le_succ _)) (Nat.le_succ _), _, below_alloc (below_alloc (Below.refl _ _)), _, _, HR.out, _, rfl⟩
--## num 58
theorem num_idle (p : Addr) (w : World) :
    CallsD Try.prog 100 #[.pointer (some p)] .returning w fun e u' w' => e = .returned (.tuple #[]) ∧ u' = .returning ∧ w' = w := by
  refine callsD_of_wpS Try.func100 rfl fun c₀ cs hu => ?_
  apply wpS_seq
  apply wpS_region
  simp [wpOpsS, go_sem, recoverD, hu, Try.ntmps100, Exit.thenS]
  apply wpS_seq
  apply wpS_seq
  apply wpS_region
  simp [wpOpsS, go_sem, Exit.thenS]
  refine wpS_cond (t := true) (by simp [Act.eval, Array.replicate]) ?_
  simp only [if_true]
  refine wpS_of_wp (wp_ret ?_)
  cases c₀
  simp_all [bodyPostS, results, Try.results100, Exit.thenS]
set_option maxRecDepth 100000 in
set_option maxHeartbeats 1000000 in
theorem num_caught (p : Addr) (u : Value) (older : List PanicEntry) (x : Int) (w : World) (hc : w.cell? p = some (.int .i64 x)) (hz : w.frozen? p = false) :
    CallsD Try.prog 100 #[.pointer (some p)] (.panicking ({ v := .iface 118 u, recovered := false } :: older)) w fun e u' w' =>
      e = .returned (.tuple #[]) ∧ u' = .panicking ({ v := .iface 118 u, recovered := true } :: older) ∧ w' = (w.setCell p (.int .i64 4)).setCell p (.int .i64 4) := by
  refine callsD_of_wpS Try.func100 rfl fun c₀ cs hu => ?_
  show Code.wpS Try.prog _ _ { tmps := #[.pointer (some p), undef, undef, undef, undef, undef, undef, undef, undef, undef, undef, undef, undef, undef, undef], defers := [] } _ _
  apply wpS_seq
  apply wpS_region
  simp [wpOpsS, go_sem, recoverD, hu, Try.ntmps100, Exit.thenS]
  have hta : ∀ xT w, (Instr.typeAssert (.iface 118 u) xT 115 true).run Try.prog w = .ok (.tuple #[.iface 118 u, .bool true]) w := fun xT w => run_typeAssert_hasB Try.underlying115 (by kernel_rfl) u xT w
  have hcm := run_code u
  refine wpS_of_wp ?_
  go_wp2_with (go_at_call 143; refine (codeI _ _).mono ?_; rintro e w' ⟨rfl, rfl⟩)
  cases c₀
  simp_all [bodyPostS, results, Try.results100]
theorem num_facts {W W2 : World} (h : Below (W.alloc (.cells #[.int .i64 0] 2)).heap.size (W.alloc (.cells #[.int .i64 0] 2)) W2) :
    W2.cell? ⟨W.heap.size, 0, none⟩ = some (.int .i64 0) ∧ W2.frozen? ⟨W.heap.size, 0, none⟩ = false ∧ W.heap.size + 1 ≤ W2.heap.size := by
  obtain ⟨hc, hf⟩ := bcell h
  have hs := h.size
  simp [go_sem] at hs
  refine ⟨?_, ?_, by omega⟩
  · rw [hc _ _ (by simp [go_sem])]; simp [go_sem]
  · rw [hf _ _ (by simp [go_sem])]; simp [go_sem]
set_option maxRecDepth 100000 in
set_option maxHeartbeats 1000000 in
theorem num_gd : GdOk Try.prog ⟨58, 0, .float .f32 0, 118⟩ := by
  intro cl vs W R hb hcall hR
  have hcf : ∀ w, (callFunc cl vs.toArray).run Try.prog w = .ok (.enter cl vs.toArray) w := fun w => Inv.run_callFunc_body hb _ w
  have hmf : ∀ (fn : Fn) (first cap : Array Value) (w : World), (Instr.makeFunc fn first cap).run Try.prog w = .ok (.func fn first cap) w := fun _ _ _ _ => rfl
  go_enter_defers Try.func58, Try.ntmps58
  go_wp2_with (refine (hcall _ (below_alloc (Below.refl _ _))).mono ?_; rintro e W2 hRe; obtain ⟨hbel, hor⟩ := hR _ _ _ hRe; obtain ⟨k2, f2, hsz⟩ := num_facts hbel; have HR := Lib.hid hRe; clear hRe; rcases hor with ⟨v, rfl, hv⟩ | ⟨u, rfl⟩; first | (obtain ⟨a, rfl⟩ := okG1 hv) | skip)
  · refine leaves_cons (f := 100) (args := #[.pointer (some ⟨W.heap.size, 0, none⟩)]) (by simp) (by simp [go_sem]) ?_
    refine (num_idle ⟨W.heap.size, 0, none⟩ _).mono ?_
    rintro e u' w'' ⟨rfl, rfl, rfl⟩
    simp [Leaves, settle, results, Try.results58, go_sem, k2, f2]
    have hB := below_step hbel (below_alloc (Below.refl W.heap.size W))
    exact ⟨below_set hB (Nat.le_refl _), _, below_alloc (Below.refl _ _), _, HR.out⟩
  · refine leaves_cons (f := 100) (args := #[.pointer (some ⟨W.heap.size, 0, none⟩)]) (by simp) (by simp [go_sem]) ?_
    refine (num_caught ⟨W.heap.size, 0, none⟩ u [] 0 _ k2 f2).mono ?_
    rintro e u' w'' ⟨rfl, rfl, rfl⟩
    simp [Leaves, settle, results, Try.results58, go_sem, k2, f2]
    have hB := below_step hbel (below_alloc (Below.refl W.heap.size W))
    exact ⟨below_set (below_set hB (Nat.le_refl _)) (Nat.le_refl _), _, below_alloc (Below.refl _ _), _, _, HR.out, _, rfl⟩
--## end
end Go.Proofs.Ytkpfgonkbnbagab
