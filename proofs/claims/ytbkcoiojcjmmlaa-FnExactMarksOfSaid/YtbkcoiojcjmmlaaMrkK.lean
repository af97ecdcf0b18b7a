/- Contracts: the marks of a stroke as they are returned. -/
import Derived.Test.YtbkcoiojcjmmlaaMrkF
import Derived.Test.YtbkcoiojcjmmlaaMrkI
namespace Go.Proofs.Ytbkcoiojcjmmlaa
open Go.RowKit Go.Mem
set_option linter.unusedSimpArgs false
set_option linter.unusedVariables false
set_option maxRecDepth 20000 in
set_option maxHeartbeats 1000000 in
theorem MarksOfS_bad (a b c d e : Int) (ha : I16 a) (hb : I16 b) (hc : I16 c) (hd : I16 d) (he : I8 e) (hok : okS a b c d e = false) (w : World) : Calls Try.prog 14 #[st a b c d e] w (fun e w' => ∃ g, e = .returned (.tuple #[.slice (some ⟨g, 0, none⟩) 0 0, .int .i64 1]) ∧ Below w.heap.size w w') := by
  have K1 : (okM a b && okM c d && okD e) = false := hok
  clear hok
  go_enter Try.func14, Try.ntmps14
  go_wp2_with (first | (go_at_call 36; refine (l06OkA _ w.heap.size a b c d e ha hb hc hd (by simp [go_sem]) (by simp [go_sem]) (by simp [go_sem]) (by simp [go_sem]) (by simp [go_sem]) (by simp)).mono ?_; rw [K1]; rintro e w' ⟨_, rfl, rfl, hb⟩; obtain ⟨hcb, hfb⟩ := bcell hb; (try simp at hcb hfb); have hs := hb.size; (try simp at hs); have HB := Lib.hid hb; clear hb; (try (have hz0 : w.heap.size < w'.heap.size := (by omega))); (try (have hz1 : w.heap.size + 1 < w'.heap.size := (by omega))); (try (have hz2 : w.heap.size + 1 + 1 < w'.heap.size := (by omega)))))
  simp [bodyPost, results, Try.results14, go_sem, *]
  exact (by ((try simp only [Hid] at *); repeat' (first | (with_reducible exact Below.refl _ _) | (with_reducible assumption) | (with_reducible refine below_drewN ?_ _) | (with_reducible refine Below.drew ?_) | (with_reducible refine below_alloc ?_) | (with_reducible refine below_set ?_ ?_) | (refine below_step (by with_reducible assumption) ?_) | (simp; done) | (simp; omega) | omega)))
set_option maxRecDepth 20000 in
set_option maxHeartbeats 1000000 in
theorem MarksOfS_ok (a b c d e : Int) (ha : I16 a) (hb : I16 b) (hc : I16 c) (hd : I16 d) (he : I8 e) (hok : okS a b c d e = true) (w : World) : Calls Try.prog 14 #[st a b c d e] w (fun e w' => ∃ v, e = .returned (.tuple #[v, .int .i64 0]) ∧ Rls 2 w' v (rM (marksN a b c d (distF a b c d))) ∧ Below w.heap.size w w') := by
  have hm1 : okM a b = true ∧ okM c d = true := by simp [okS] at hok; exact ⟨hok.1.1, hok.1.2⟩
  have K1 : (okM a b && okM c d && okD e) = true := hok
  have HMK : Aside (∀ w, Calls Try.prog 39 #[mk a b, mk c d] w fun e w' => ∃ v, e = .returned v ∧ Rls 2 w' v (rM (marksN a b c d (distF a b c d))) ∧ Below w.heap.size w w') := fun w => l06MarksS a b c d (okM_bd hm1.1).1 (okM_bd hm1.1).2 (okM_bd hm1.2).1 (okM_bd hm1.2).2 w
  clear hok hm1
  go_enter Try.func14, Try.ntmps14
  go_wp2_with (first | (go_at_call 36; refine (l06OkA _ w.heap.size a b c d e ha hb hc hd (by simp [go_sem]) (by simp [go_sem]) (by simp [go_sem]) (by simp [go_sem]) (by simp [go_sem]) (by simp)).mono ?_; rw [K1]; rintro e w' ⟨_, rfl, rfl, hb⟩; obtain ⟨hcb, hfb⟩ := bcell hb; (try simp at hcb hfb); have hs := hb.size; (try simp at hs); have HB := Lib.hid hb; clear hb; (try (have hz0 : w.heap.size < w'.heap.size := (by omega))); (try (have hz1 : w.heap.size + 1 < w'.heap.size := (by omega))); (try (have hz2 : w.heap.size + 1 + 1 < w'.heap.size := (by omega)))) | (go_at_call 39; refine (HMK.out _).mono ?_; rintro e w' ⟨vL, rfl, hR, hb⟩; have HB2 := Lib.hid hb; clear hb))
  simp [bodyPost, results, Try.results14, go_sem, *]
  exact (by ((try simp only [Hid] at *); repeat' (first | (with_reducible exact Below.refl _ _) | (with_reducible assumption) | (with_reducible refine below_drewN ?_ _) | (with_reducible refine Below.drew ?_) | (with_reducible refine below_alloc ?_) | (with_reducible refine below_set ?_ ?_) | (refine below_step (by with_reducible assumption) ?_) | (simp; done) | (simp; omega) | omega)))
set_option maxRecDepth 20000 in
set_option maxHeartbeats 1000000 in
theorem MarksOfI_bad (a b c d e : Int) (ha : I16 a) (hb : I16 b) (hc : I16 c) (hd : I16 d) (he : I8 e) (hok : okS a b c d e = false) (w : World) : Calls Try.prog 15 #[st a b c d e] w (fun e w' => e = .returned (.tuple #[.slice none 0 0, .int .i64 1]) ∧ Below w.heap.size w w') := by
  have HV : Aside (∀ w, Calls Try.prog 13 #[st a b c d e] w (Gives (isB (okS a b c d e)) w)) := ValidStrokeI a b c d e ha hb hc hd he
  rw [hok] at HV
  go_enter Try.func15, Try.ntmps15
  go_wp2_with (first | (go_at_call 13; refine (HV.out _).mono ?_; rintro e w' ⟨_, rfl, rfl, hb⟩; obtain ⟨hcb, hfb⟩ := bcell hb; (try simp at hcb hfb); have hs := hb.size; (try simp at hs); have HB := Lib.hid hb; clear hb; (try (have hz0 : w.heap.size < w'.heap.size := (by omega))); (try (have hz1 : w.heap.size + 1 < w'.heap.size := (by omega))); (try (have hz2 : w.heap.size + 1 + 1 < w'.heap.size := (by omega)))))
  simp [bodyPost, results, Try.results15, go_sem, *]
  exact (by ((try simp only [Hid] at *); repeat' (first | (with_reducible exact Below.refl _ _) | (with_reducible assumption) | (with_reducible refine below_drewN ?_ _) | (with_reducible refine Below.drew ?_) | (with_reducible refine below_alloc ?_) | (with_reducible refine below_set ?_ ?_) | (refine below_step (by with_reducible assumption) ?_) | (simp; done) | (simp; omega) | omega)))
set_option maxRecDepth 20000 in
set_option maxHeartbeats 1000000 in
theorem MarksOfI_ok (a b c d e : Int) (ha : I16 a) (hb : I16 b) (hc : I16 c) (hd : I16 d) (he : I8 e) (hok : okS a b c d e = true) (w : World) : Calls Try.prog 15 #[st a b c d e] w (fun e w' => ∃ g, e = .returned (.tuple #[.slice (some ⟨g, 0, none⟩) ((distF a b c d).toNat + 1) ((distF a b c d).toNat + 1), .int .i64 0]) ∧ Mem w w' [] [(g, (rM (marksN a b c d (distF a b c d))).flatten)]) := by
  have hm1 : okM a b = true ∧ okM c d = true := by simp [okS] at hok; exact ⟨hok.1.1, hok.1.2⟩
  have HV : Aside (∀ w, Calls Try.prog 13 #[st a b c d e] w (Gives (isB (okS a b c d e)) w)) := ValidStrokeI a b c d e ha hb hc hd he
  rw [hok] at HV
  have HMK : Aside (∀ w, Calls Try.prog 40 #[st a b c d e] w fun e w' => ∃ g, e = .returned (.slice (some ⟨g, 0, none⟩) ((distF a b c d).toNat + 1) ((distF a b c d).toNat + 1)) ∧ Mem w w' [] [(g, (rM (marksN a b c d (distF a b c d))).flatten)]) := fun w => marksI a b c d e (okM_bd hm1.1).1 (okM_bd hm1.1).2 (okM_bd hm1.2).1 (okM_bd hm1.2).2 w
  clear hok hm1
  go_enter Try.func15, Try.ntmps15
  go_wp2_with (first | (go_at_call 13; refine (HV.out _).mono ?_; rintro e w' ⟨_, rfl, rfl, hb⟩; obtain ⟨hcb, hfb⟩ := bcell hb; (try simp at hcb hfb); have hs := hb.size; (try simp at hs); have HB := Lib.hid hb; clear hb; (try (have hz0 : w.heap.size < w'.heap.size := (by omega))); (try (have hz1 : w.heap.size + 1 < w'.heap.size := (by omega))); (try (have hz2 : w.heap.size + 1 + 1 < w'.heap.size := (by omega)))) | (go_at_call 40; refine (HMK.out _).mono ?_; rintro e w2 ⟨gL, rfl, hM⟩; have HM2 := Lib.hid (Mem.lift hM (by simpa using below_step HB.out (below_alloc (Below.refl _ _)))); clear hM))
  simp [bodyPost, results, Try.results15, go_sem, *]
  exact HM2.out
end Go.Proofs.Ytbkcoiojcjmmlaa
