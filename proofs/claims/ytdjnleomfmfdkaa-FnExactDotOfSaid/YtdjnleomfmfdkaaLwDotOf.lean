--## law
/- The law FnExactDotOf: for every input the function DotOf answers as its model, and the law returns true. No condition. -/
import Derived.Test.YtdjnleomfmfdkaaOpen
import Derived.Test.YtdjnleomfmfdkaaPtE
import Derived.Test.YtdjnleomfmfdkaaLawA
namespace Go.Proofs.Ytdjnleomfmfdkaa.lawExactDotOf
open Go.ChangeShapes Go.WideShapes Go.ChangeAt Go.RowKit Go.Flo
open Go.ChangeMaps (open_string shut_string)
set_option linter.unusedSimpArgs false
set_option linter.unusedVariables false
theorem cellKept {w1 w2 : World} {b off : Nat} {v : Value} (hb : Below w1.heap.size w1 w2) (hl : b < w1.heap.size) (h : w1.cell? ⟨b, off, none⟩ = some v) : w2.cell? ⟨b, off, none⟩ = some v :=
  (hb.cell (p := ⟨b, off, none⟩) hl).trans h
def SS (x0_0 x0_1 x0_2 x1_0 x1_1 x1_2 : Nat) (w W : World) : Prop := W.cell? ⟨w.heap.size, 0, none⟩ = some (.float .f32 x0_0) ∧ W.cell? ⟨w.heap.size, 1, none⟩ = some (.float .f32 x0_1) ∧ W.cell? ⟨w.heap.size, 2, none⟩ = some (.float .f32 x0_2) ∧ W.cell? ⟨w.heap.size + 1, 0, none⟩ = some (.float .f32 x1_0) ∧ W.cell? ⟨w.heap.size + 1, 1, none⟩ = some (.float .f32 x1_1) ∧ W.cell? ⟨w.heap.size + 1, 2, none⟩ = some (.float .f32 x1_2) ∧ w.heap.size + 2 ≤ W.heap.size ∧ Below w.heap.size w W
theorem keepS {x0_0 x0_1 x0_2 x1_0 x1_1 x1_2 : Nat} {w w1 w2 : World} (hb : Below w1.heap.size w1 w2) (h : w1.cell? ⟨w.heap.size, 0, none⟩ = some (.float .f32 x0_0) ∧ w1.cell? ⟨w.heap.size, 1, none⟩ = some (.float .f32 x0_1) ∧ w1.cell? ⟨w.heap.size, 2, none⟩ = some (.float .f32 x0_2) ∧ w1.cell? ⟨w.heap.size + 1, 0, none⟩ = some (.float .f32 x1_0) ∧ w1.cell? ⟨w.heap.size + 1, 1, none⟩ = some (.float .f32 x1_1) ∧ w1.cell? ⟨w.heap.size + 1, 2, none⟩ = some (.float .f32 x1_2) ∧ w.heap.size + 2 ≤ w1.heap.size ∧ Below w.heap.size w w1) : w2.cell? ⟨w.heap.size, 0, none⟩ = some (.float .f32 x0_0) ∧ w2.cell? ⟨w.heap.size, 1, none⟩ = some (.float .f32 x0_1) ∧ w2.cell? ⟨w.heap.size, 2, none⟩ = some (.float .f32 x0_2) ∧ w2.cell? ⟨w.heap.size + 1, 0, none⟩ = some (.float .f32 x1_0) ∧ w2.cell? ⟨w.heap.size + 1, 1, none⟩ = some (.float .f32 x1_1) ∧ w2.cell? ⟨w.heap.size + 1, 2, none⟩ = some (.float .f32 x1_2) ∧ w.heap.size + 2 ≤ w2.heap.size ∧ Below w.heap.size w w2 := by
  obtain ⟨c0, c1, c2, c3, c4, c5, hs, hB⟩ := h
  exact ⟨cellKept hb (by omega) c0, cellKept hb (by omega) c1, cellKept hb (by omega) c2, cellKept hb (by omega) c3, cellKept hb (by omega) c4, cellKept hb (by omega) c5, Nat.le_trans hs hb.size, hB.trans (hb.mono hB.size)⟩
theorem keepD {x0_0 x0_1 x0_2 x1_0 x1_1 x1_2 : Nat} {w w1 : World} (h : w1.cell? ⟨w.heap.size, 0, none⟩ = some (.float .f32 x0_0) ∧ w1.cell? ⟨w.heap.size, 1, none⟩ = some (.float .f32 x0_1) ∧ w1.cell? ⟨w.heap.size, 2, none⟩ = some (.float .f32 x0_2) ∧ w1.cell? ⟨w.heap.size + 1, 0, none⟩ = some (.float .f32 x1_0) ∧ w1.cell? ⟨w.heap.size + 1, 1, none⟩ = some (.float .f32 x1_1) ∧ w1.cell? ⟨w.heap.size + 1, 2, none⟩ = some (.float .f32 x1_2) ∧ w.heap.size + 2 ≤ w1.heap.size ∧ Below w.heap.size w w1) : w1.drew.cell? ⟨w.heap.size, 0, none⟩ = some (.float .f32 x0_0) ∧ w1.drew.cell? ⟨w.heap.size, 1, none⟩ = some (.float .f32 x0_1) ∧ w1.drew.cell? ⟨w.heap.size, 2, none⟩ = some (.float .f32 x0_2) ∧ w1.drew.cell? ⟨w.heap.size + 1, 0, none⟩ = some (.float .f32 x1_0) ∧ w1.drew.cell? ⟨w.heap.size + 1, 1, none⟩ = some (.float .f32 x1_1) ∧ w1.drew.cell? ⟨w.heap.size + 1, 2, none⟩ = some (.float .f32 x1_2) ∧ w.heap.size + 2 ≤ w1.drew.heap.size ∧ Below w.heap.size w w1.drew := by
  obtain ⟨c0, c1, c2, c3, c4, c5, hs, hB⟩ := h
  exact ⟨c0, c1, c2, c3, c4, c5, hs, hB.drew⟩
theorem keepN {x0_0 x0_1 x0_2 x1_0 x1_1 x1_2 : Nat} {w w1 : World} {n : Nat} (h : w1.cell? ⟨w.heap.size, 0, none⟩ = some (.float .f32 x0_0) ∧ w1.cell? ⟨w.heap.size, 1, none⟩ = some (.float .f32 x0_1) ∧ w1.cell? ⟨w.heap.size, 2, none⟩ = some (.float .f32 x0_2) ∧ w1.cell? ⟨w.heap.size + 1, 0, none⟩ = some (.float .f32 x1_0) ∧ w1.cell? ⟨w.heap.size + 1, 1, none⟩ = some (.float .f32 x1_1) ∧ w1.cell? ⟨w.heap.size + 1, 2, none⟩ = some (.float .f32 x1_2) ∧ w.heap.size + 2 ≤ w1.heap.size ∧ Below w.heap.size w w1) : (w1.drewN n).cell? ⟨w.heap.size, 0, none⟩ = some (.float .f32 x0_0) ∧ (w1.drewN n).cell? ⟨w.heap.size, 1, none⟩ = some (.float .f32 x0_1) ∧ (w1.drewN n).cell? ⟨w.heap.size, 2, none⟩ = some (.float .f32 x0_2) ∧ (w1.drewN n).cell? ⟨w.heap.size + 1, 0, none⟩ = some (.float .f32 x1_0) ∧ (w1.drewN n).cell? ⟨w.heap.size + 1, 1, none⟩ = some (.float .f32 x1_1) ∧ (w1.drewN n).cell? ⟨w.heap.size + 1, 2, none⟩ = some (.float .f32 x1_2) ∧ w.heap.size + 2 ≤ (w1.drewN n).heap.size ∧ Below w.heap.size w (w1.drewN n) := by
  obtain ⟨c0, c1, c2, c3, c4, c5, hs, hB⟩ := h
  exact ⟨c0, c1, c2, c3, c4, c5, hs, below_drewN hB n⟩
theorem keepA {x0_0 x0_1 x0_2 x1_0 x1_1 x1_2 : Nat} {w w1 : World} {o : Obj} (h : w1.cell? ⟨w.heap.size, 0, none⟩ = some (.float .f32 x0_0) ∧ w1.cell? ⟨w.heap.size, 1, none⟩ = some (.float .f32 x0_1) ∧ w1.cell? ⟨w.heap.size, 2, none⟩ = some (.float .f32 x0_2) ∧ w1.cell? ⟨w.heap.size + 1, 0, none⟩ = some (.float .f32 x1_0) ∧ w1.cell? ⟨w.heap.size + 1, 1, none⟩ = some (.float .f32 x1_1) ∧ w1.cell? ⟨w.heap.size + 1, 2, none⟩ = some (.float .f32 x1_2) ∧ w.heap.size + 2 ≤ w1.heap.size ∧ Below w.heap.size w w1) : (w1.alloc o).cell? ⟨w.heap.size, 0, none⟩ = some (.float .f32 x0_0) ∧ (w1.alloc o).cell? ⟨w.heap.size, 1, none⟩ = some (.float .f32 x0_1) ∧ (w1.alloc o).cell? ⟨w.heap.size, 2, none⟩ = some (.float .f32 x0_2) ∧ (w1.alloc o).cell? ⟨w.heap.size + 1, 0, none⟩ = some (.float .f32 x1_0) ∧ (w1.alloc o).cell? ⟨w.heap.size + 1, 1, none⟩ = some (.float .f32 x1_1) ∧ (w1.alloc o).cell? ⟨w.heap.size + 1, 2, none⟩ = some (.float .f32 x1_2) ∧ w.heap.size + 2 ≤ (w1.alloc o).heap.size ∧ Below w.heap.size w (w1.alloc o) := by
  have hb : Below w1.heap.size w1 (w1.alloc o) := (Below.refl _ _).alloc (Nat.le_refl _) _
  exact keepS hb h
theorem keepW {x0_0 x0_1 x0_2 x1_0 x1_1 x1_2 : Nat} {w w1 : World} {p : Addr} {v : Value} (hp : w.heap.size + 2 ≤ p.block) (h : w1.cell? ⟨w.heap.size, 0, none⟩ = some (.float .f32 x0_0) ∧ w1.cell? ⟨w.heap.size, 1, none⟩ = some (.float .f32 x0_1) ∧ w1.cell? ⟨w.heap.size, 2, none⟩ = some (.float .f32 x0_2) ∧ w1.cell? ⟨w.heap.size + 1, 0, none⟩ = some (.float .f32 x1_0) ∧ w1.cell? ⟨w.heap.size + 1, 1, none⟩ = some (.float .f32 x1_1) ∧ w1.cell? ⟨w.heap.size + 1, 2, none⟩ = some (.float .f32 x1_2) ∧ w.heap.size + 2 ≤ w1.heap.size ∧ Below w.heap.size w w1) : (w1.setCell p v).cell? ⟨w.heap.size, 0, none⟩ = some (.float .f32 x0_0) ∧ (w1.setCell p v).cell? ⟨w.heap.size, 1, none⟩ = some (.float .f32 x0_1) ∧ (w1.setCell p v).cell? ⟨w.heap.size, 2, none⟩ = some (.float .f32 x0_2) ∧ (w1.setCell p v).cell? ⟨w.heap.size + 1, 0, none⟩ = some (.float .f32 x1_0) ∧ (w1.setCell p v).cell? ⟨w.heap.size + 1, 1, none⟩ = some (.float .f32 x1_1) ∧ (w1.setCell p v).cell? ⟨w.heap.size + 1, 2, none⟩ = some (.float .f32 x1_2) ∧ w.heap.size + 2 ≤ (w1.setCell p v).heap.size ∧ Below w.heap.size w (w1.setCell p v) := by
  obtain ⟨c0, c1, c2, c3, c4, c5, hs, hB⟩ := h
  have hb : Below (w.heap.size + 2) w1 (w1.setCell p v) := (Below.refl _ _).setCell hp v
  exact ⟨(hb.cell (p := ⟨_, _, none⟩) (by simp)).trans c0, (hb.cell (p := ⟨_, _, none⟩) (by simp)).trans c1, (hb.cell (p := ⟨_, _, none⟩) (by simp)).trans c2, (hb.cell (p := ⟨_, _, none⟩) (by simp)).trans c3, (hb.cell (p := ⟨_, _, none⟩) (by simp)).trans c4, (hb.cell (p := ⟨_, _, none⟩) (by simp)).trans c5, Nat.le_trans hs hb.size, hB.trans (hb.mono (by omega))⟩
theorem realloc {w1 : World} {c c' : Array Value} {t t' : TypeId} : Below w1.heap.size (w1.alloc (.cells c t)) (w1.alloc (.cells c' t')) :=
  ⟨rfl, rfl, rfl, by simp, fun k hk => (Below.heap_alloc w1 _ k hk).trans (Below.heap_alloc w1 _ k hk).symm⟩
theorem keepR {x0_0 x0_1 x0_2 x1_0 x1_1 x1_2 : Nat} {w w1 : World} {c c' : Array Value} {t t' : TypeId} (hz : w.heap.size + 2 ≤ w1.heap.size) (h : (w1.alloc (.cells c t)).cell? ⟨w.heap.size, 0, none⟩ = some (.float .f32 x0_0) ∧ (w1.alloc (.cells c t)).cell? ⟨w.heap.size, 1, none⟩ = some (.float .f32 x0_1) ∧ (w1.alloc (.cells c t)).cell? ⟨w.heap.size, 2, none⟩ = some (.float .f32 x0_2) ∧ (w1.alloc (.cells c t)).cell? ⟨w.heap.size + 1, 0, none⟩ = some (.float .f32 x1_0) ∧ (w1.alloc (.cells c t)).cell? ⟨w.heap.size + 1, 1, none⟩ = some (.float .f32 x1_1) ∧ (w1.alloc (.cells c t)).cell? ⟨w.heap.size + 1, 2, none⟩ = some (.float .f32 x1_2) ∧ w.heap.size + 2 ≤ (w1.alloc (.cells c t)).heap.size ∧ Below w.heap.size w (w1.alloc (.cells c t))) : (w1.alloc (.cells c' t')).cell? ⟨w.heap.size, 0, none⟩ = some (.float .f32 x0_0) ∧ (w1.alloc (.cells c' t')).cell? ⟨w.heap.size, 1, none⟩ = some (.float .f32 x0_1) ∧ (w1.alloc (.cells c' t')).cell? ⟨w.heap.size, 2, none⟩ = some (.float .f32 x0_2) ∧ (w1.alloc (.cells c' t')).cell? ⟨w.heap.size + 1, 0, none⟩ = some (.float .f32 x1_0) ∧ (w1.alloc (.cells c' t')).cell? ⟨w.heap.size + 1, 1, none⟩ = some (.float .f32 x1_1) ∧ (w1.alloc (.cells c' t')).cell? ⟨w.heap.size + 1, 2, none⟩ = some (.float .f32 x1_2) ∧ w.heap.size + 2 ≤ (w1.alloc (.cells c' t')).heap.size ∧ Below w.heap.size w (w1.alloc (.cells c' t')) := by
  obtain ⟨c0, c1, c2, c3, c4, c5, hs, hB⟩ := h
  have hb := realloc (w1 := w1) (c := c) (c' := c') (t := t) (t' := t')
  exact ⟨(hb.cell (p := ⟨_, _, none⟩) (by simp; omega)).trans c0, (hb.cell (p := ⟨_, _, none⟩) (by simp; omega)).trans c1, (hb.cell (p := ⟨_, _, none⟩) (by simp; omega)).trans c2, (hb.cell (p := ⟨_, _, none⟩) (by simp; omega)).trans c3, (hb.cell (p := ⟨_, _, none⟩) (by simp; omega)).trans c4, (hb.cell (p := ⟨_, _, none⟩) (by simp; omega)).trans c5, Nat.le_trans hs hb.size, hB.trans (hb.mono (by omega))⟩

set_option maxHeartbeats 1600000 in
theorem walk (x0_0 x0_1 x0_2 : Nat) (x1_0 x1_1 x1_2 : Nat) (w0_0 : (Lit.float .f32 x0_0).wf = true) (w0_1 : (Lit.float .f32 x0_1).wf = true) (w0_2 : (Lit.float .f32 x0_2).wf = true) (w1_0 : (Lit.float .f32 x1_0).wf = true) (w1_1 : (Lit.float .f32 x1_1).wf = true) (w1_2 : (Lit.float .f32 x1_2).wf = true) (w : World) :
    Calls Try.prog 13 #[.agg #[.float .f32 x0_0, .float .f32 x0_1, .float .f32 x0_2], .agg #[.float .f32 x1_0, .float .f32 x1_1, .float .f32 x1_2]] w (Gives (isB true) w) := by
  have tok_1 : True := trivial; have tok_2 : True := trivial
  go_enter Try.func13, Try.ntmps13
  go_wp2
  refine worldAny (fun W => W.cell? ⟨w.heap.size, 0, none⟩ = some (.float .f32 x0_0) ∧ W.cell? ⟨w.heap.size, 1, none⟩ = some (.float .f32 x0_1) ∧ W.cell? ⟨w.heap.size, 2, none⟩ = some (.float .f32 x0_2) ∧ W.cell? ⟨w.heap.size + 1, 0, none⟩ = some (.float .f32 x1_0) ∧ W.cell? ⟨w.heap.size + 1, 1, none⟩ = some (.float .f32 x1_1) ∧ W.cell? ⟨w.heap.size + 1, 2, none⟩ = some (.float .f32 x1_2) ∧ w.heap.size + 2 ≤ W.heap.size ∧ Below w.heap.size w W) ?_ ?_
  · refine ⟨?_, ?_, ?_, ?_, ?_, ?_, ?_, ?_⟩ <;> first | (simp; done) | (simp; omega) | (go_grown; done)
  intro w1 hS
  have hz : w.heap.size + 2 ≤ w1.heap.size := hS.2.2.2.2.2.2.1
  go_region_held3 (fun W => W.cell? ⟨w.heap.size, 0, none⟩ = some (.float .f32 x0_0) ∧ W.cell? ⟨w.heap.size, 1, none⟩ = some (.float .f32 x0_1) ∧ W.cell? ⟨w.heap.size, 2, none⟩ = some (.float .f32 x0_2) ∧ W.cell? ⟨w.heap.size + 1, 0, none⟩ = some (.float .f32 x1_0) ∧ W.cell? ⟨w.heap.size + 1, 1, none⟩ = some (.float .f32 x1_1) ∧ W.cell? ⟨w.heap.size + 1, 2, none⟩ = some (.float .f32 x1_2) ∧ w.heap.size + 2 ≤ W.heap.size ∧ Below w.heap.size w W) (first | with_reducible exact keepR (by with_reducible assumption) (by with_reducible assumption) | with_reducible exact keepD hS | with_reducible exact keepD (keepA hS) | with_reducible exact keepS hb hS | with_reducible exact keepS hb (by with_reducible assumption) | with_reducible exact keepA (by with_reducible assumption) | with_reducible exact keepN (by with_reducible assumption) | ((with_reducible refine keepW ?_ ?_) <;> first | (with_reducible assumption) | ((with_reducible refine keepW ?_ ?_) <;> first | (with_reducible assumption) | ((with_reducible refine keepW ?_ ?_) <;> first | (with_reducible assumption) | (simp; done) | (simp; omega)) | (simp; done) | (simp; omega)) | (simp; done) | (simp; omega)) | go_keep)
    (first | (go_at_call 45; refine (toPoint_any _ _ _ _).mono ?_; rintro e w' ⟨rfl, hb⟩; have hq := hb.size; (try simp at hq); have hz : w.heap.size + 2 ≤ w'.heap.size := (by omega); clear hq) | (go_at_call 55; refine (DotOfS _ _ _ _ _ _ _).mono ?_; rintro e w' ⟨_, rfl, ⟨rS, rfl, hp⟩, hb⟩; have HS := Lib.hid hp; clear hp; have hq := hb.size; (try simp at hq); have hz : w.heap.size + 2 ≤ w'.heap.size := (by omega); clear hq))
  go_wp2
  clear hS
  refine worldAny (fun W => W.cell? ⟨w.heap.size, 0, none⟩ = some (.float .f32 x0_0) ∧ W.cell? ⟨w.heap.size, 1, none⟩ = some (.float .f32 x0_1) ∧ W.cell? ⟨w.heap.size, 2, none⟩ = some (.float .f32 x0_2) ∧ W.cell? ⟨w.heap.size + 1, 0, none⟩ = some (.float .f32 x1_0) ∧ W.cell? ⟨w.heap.size + 1, 1, none⟩ = some (.float .f32 x1_1) ∧ W.cell? ⟨w.heap.size + 1, 2, none⟩ = some (.float .f32 x1_2) ∧ w.heap.size + 2 ≤ W.heap.size ∧ Below w.heap.size w W) (by with_reducible assumption) ?_
  intro w2 hS
  have hz : w.heap.size + 2 ≤ w2.heap.size := hS.2.2.2.2.2.2.1
  go_region_held3 (fun W => W.cell? ⟨w.heap.size, 0, none⟩ = some (.float .f32 x0_0) ∧ W.cell? ⟨w.heap.size, 1, none⟩ = some (.float .f32 x0_1) ∧ W.cell? ⟨w.heap.size, 2, none⟩ = some (.float .f32 x0_2) ∧ W.cell? ⟨w.heap.size + 1, 0, none⟩ = some (.float .f32 x1_0) ∧ W.cell? ⟨w.heap.size + 1, 1, none⟩ = some (.float .f32 x1_1) ∧ W.cell? ⟨w.heap.size + 1, 2, none⟩ = some (.float .f32 x1_2) ∧ w.heap.size + 2 ≤ W.heap.size ∧ Below w.heap.size w W) (first | with_reducible exact keepR (by with_reducible assumption) (by with_reducible assumption) | with_reducible exact keepD hS | with_reducible exact keepD (keepA hS) | with_reducible exact keepS hb hS | with_reducible exact keepS hb (by with_reducible assumption) | with_reducible exact keepA (by with_reducible assumption) | with_reducible exact keepN (by with_reducible assumption) | ((with_reducible refine keepW ?_ ?_) <;> first | (with_reducible assumption) | ((with_reducible refine keepW ?_ ?_) <;> first | (with_reducible assumption) | ((with_reducible refine keepW ?_ ?_) <;> first | (with_reducible assumption) | (simp; done) | (simp; omega)) | (simp; done) | (simp; omega)) | (simp; done) | (simp; omega)) | go_keep)
    (first | (go_at_call 45; refine (toPoint_any _ _ _ _).mono ?_; rintro e w' ⟨rfl, hb⟩; have hq := hb.size; (try simp at hq); have hz : w.heap.size + 2 ≤ w'.heap.size := (by omega); clear hq) | (go_at_call 56; refine (DotOfI _ _ _ _ _ _ _).mono ?_; rintro e w' ⟨_, rfl, ⟨rI, rfl, hp⟩, hb⟩; have HI := Lib.hid hp; clear hp; have hq := hb.size; (try simp at hq); have hz : w.heap.size + 2 ≤ w'.heap.size := (by omega); clear hq))
  obtain ⟨c0, c1, c2, c3, c4, c5, hs, hB⟩ := hS
  clear c0 c1 c2 c3 c4 c5
  go_wp2_with (first | (clear tok_2; refine wpList_widen rfl _ _ _ rfl _ rfl (by kernel_rfl) (by kernel_rfl) ?_; intro q1 n1 hw1) | (refine wpList_widen rfl _ _ _ rfl _ rfl (by kernel_rfl) (by kernel_rfl) ?_; intro q2 n2 hw2) | (go_at_call 57; refine (sameFloat_any _ _ (by rw [hw1.out.1, hw2.out.1, HI.out, HS.out]) _).mono ?_; rintro e w' ⟨rfl, m, rfl⟩))
  first
    | simp [bodyPost, results, Try.results13, go_sem]
  exact ⟨_, rfl, rfl, by ((try simp only [Hid] at *); repeat' (first | (with_reducible exact Below.refl _ _) | (with_reducible assumption) | (with_reducible refine below_drewN ?_ _) | (with_reducible refine Below.drew ?_) | (with_reducible refine below_alloc ?_) | (with_reducible refine below_set ?_ ?_) | (refine below_step (by with_reducible assumption) ?_) | (simp; done) | (simp; omega) | omega))⟩

set_option maxRecDepth 100000 in
theorem lifted (os : Os) (started : os.Started) (H : Type) (enc : TypeId × Value → H) :
    ReturnsInHanded {} Try.checked os 13 .any (Rows.fnExactDotOfSpec.pre6 enc Try.prog Try.f13 Rows.fnExactDotOfRow.domain false) (Rows.fnExactDotOfSpec.post enc Try.prog Try.f13 false true false false) := by
  refine returnsInHanded_of_change (C := Try.checked) own started (by kernel_rfl) Try.func13
    (ChangeSpec.witness6 (enc := enc) (C := Try.checked) false ⟨#[], #[.agg #[.float .f32 0, .float .f32 0, .float .f32 0], .agg #[.float .f32 0, .float .f32 0, .float .f32 0]], []⟩ 8 (by kernel_rfl) (by kernel_rfl) (by kernel_rfl) (by kernel_rfl)) ?_
  intro W base args ds gs before hval0 hW hcnd _
  have hval : ∀ (j : Nat) t v, Try.f13.params[j]? = some t → args[j]? = some v → Value.okWide Try.prog W .any base t v := hval0
  have hW' := hW
  obtain ⟨p, q, hA0, hV, rfl, hfz, hnd⟩ := hW
  have hA : DataW.TrodAll enc Try.prog W 0 (fun _ => true) true Try.f13.params.toList args.toList ds p := hA0
  rw [Try.params13] at hA hval
  obtain ⟨v0, vs0, d0, ds0, p0, q0, hargs, rfl, rfl, h0, r0⟩ := trodAll_cons hA
  obtain ⟨v1, vs1, d1, ds1, p1, q1, rfl, rfl, rfl, h1, r1⟩ := trodAll_cons r0
  obtain ⟨rfl, rfl, rfl⟩ := trodAll_nil r1
  obtain rfl : args = #[v0, v1] := by cases args; simp_all
  obtain ⟨rfl, rfl⟩ := trodVars_none hV
  have k0 := h0
  have lt0 := lt_of_trod h0
  obtain ⟨x0_0, x0_1, x0_2, rfl, w0_0, w0_1, w0_2⟩ := open_pt Try.underlying25 Try.underlying24 (by kernel_rfl) (by kernel_rfl) (hval 0 25 v0 rfl rfl) h0
  have k1 := h1
  have lt1 := lt_of_trod h1
  obtain ⟨x1_0, x1_1, x1_2, rfl, w1_0, w1_1, w1_2⟩ := open_pt Try.underlying25 Try.underlying24 (by kernel_rfl) (by kernel_rfl) (hval 1 25 v1 rfl rfl) h1
  clear hA0 hval0
  refine (walk x0_0 x0_1 x0_2 x1_0 x1_1 x1_2 w0_0 w0_1 w0_2 w1_0 w1_1 w1_2 W).mono fun e W' hq => ?_
  obtain ⟨v, rfl, rfl, bel⟩ := hq
  exact ⟨_, rfl, _, _, _, [], _, [], hW', trodAll_mk1 (shut_bool Try.underlying4 _), (trodAll_cons_mk (Below.trod laidOut (by kernel_rfl) (of_decide_eq_true (by kernel_rfl)) k0 bel lt0) (trodAll_cons_mk (Below.trod laidOut (by kernel_rfl) (of_decide_eq_true (by kernel_rfl)) k1 bel lt1) trodAll_mk0)), rfl, bel.frame _, fun h => by cases h⟩

theorem over : Rows.fnExactDotOfRow.holds Try.pinned (OpenSpec.ofChange Rows.fnExactDotOfSpec) :=
  OpenClaim.holds_of_wide 13 Try.f13 rfl rfl rfl rfl rfl rfl rfl ⟨rfl, rfl, rfl, rfl, rfl⟩ rfl rfl rfl rfl rfl (by kernel_rfl) Try.func13 (by kernel_rfl)
    (of_decide_eq_true (by kernel_rfl)) (by unfold Func.isWrapper; rw [if_neg (of_decide_eq_false (by kernel_rfl))]; exact ⟨rfl, rfl⟩)
    (fun os started H enc _ => lifted os started H enc)

theorem proved : Rows.FnExactDotOfSaid := over

end Go.Proofs.Ytdjnleomfmfdkaa.lawExactDotOf
