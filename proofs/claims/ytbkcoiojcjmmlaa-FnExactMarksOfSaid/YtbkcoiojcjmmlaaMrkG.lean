/- Contracts: strokes are clipped. -/
import Derived.Test.YtbkcoiojcjmmlaaMrkF
import Derived.Test.YtbkcoiojcjmmlaaMrkD
import Derived.Deep.CutBlock
namespace Go.Proofs.Ytbkcoiojcjmmlaa
open Go.RowKit Go.Mem
set_option linter.unusedSimpArgs false
set_option linter.unusedVariables false
def inF (l0 l1 h0 h1 : Int) (m : Int × Int) : Bool := decide (l0 ≤ m.1) && decide (m.1 ≤ h0) && decide (l1 ≤ m.2) && decide (m.2 ≤ h1)
abbrev PP := Option ((Int × Int) × (Int × Int))
def clipStep (p : Int × Int → Bool) (s : PP) (m : Int × Int) : PP := if p m then (match s with | none => some (m, m) | some (a, _) => some (a, m)) else s
def clipF (p : Int × Int → Bool) (ms : List (Int × Int)) : PP := ms.foldl (clipStep p) none
theorem clip_take {p : Int × Int → Bool} {ms : List (Int × Int)} {i : Nat} {m : Int × Int} (hm : ms[i]? = some m) : clipF p (ms.take (i + 1)) = clipStep p (clipF p (ms.take i)) m := by
  have hi : i < ms.length := (List.getElem?_eq_some_iff.mp hm).1
  have he : ms[i] = m := (List.getElem?_eq_some_iff.mp hm).2
  unfold clipF
  rw [List.take_succ_eq_append_getElem hi, he, List.foldl_append]
  rfl
set_option maxRecDepth 20000 in
set_option maxHeartbeats 1000000 in
theorem l06WithinA (x y a b c d : Int) (w : World) : Calls Try.prog 47 #[mk x y, mk a b, mk c d] w (Gives (isB (inF a b c d (x, y))) w) := by
  go_enter Try.func47, Try.ntmps47
  go_wp2_with fail
  all_goals
    simp [bodyPost, results, Try.results47, go_sem, *]
    refine ⟨_, rfl, ?_, (by ((try simp only [Hid] at *); repeat' (first | (with_reducible exact Below.refl _ _) | (with_reducible assumption) | (with_reducible refine below_drewN ?_ _) | (with_reducible refine Below.drew ?_) | (with_reducible refine below_alloc ?_) | (with_reducible refine below_set ?_ ?_) | (refine below_step (by with_reducible assumption) ?_) | (simp; done) | (simp; omega) | omega)))⟩
    simp_all [isB, inF]
    try (intros; omega)
def clipOut (e : Int) : PP → Value
  | none => .tuple #[st 0 0 0 0 0, .bool false, .int .i64 0]
  | some (A, B) => .tuple #[st A.1 A.2 B.1 B.2 e, .bool true, .int .i64 0]
theorem clip_no {p : Int × Int → Bool} {s : PP} {m : Int × Int} (h : p m = false) : clipStep p s m = s := by simp [clipStep, h]
theorem clip_yes {p : Int × Int → Bool} {s : PP} {m : Int × Int} (h : p m = true) : clipStep p s m = (match s with | none => some (m, m) | some (a, _) => some (a, m)) := by simp [clipStep, h]
def clipCells (e : Int) : PP → List Value
  | none => [.int .i16 0, .int .i16 0, .int .i16 0, .int .i16 0, .int .i8 e]
  | some (A, B) => [.int .i16 A.1, .int .i16 A.2, .int .i16 B.1, .int .i16 B.2, .int .i8 e]
def clipV (a b c d e l0 l1 h0 h1 : Int) : Value :=
  bif !(okS a b c d e && okM l0 l1 && okM h0 h1) then .tuple #[st 0 0 0 0 0, .bool false, .int .i64 1] else
  bif decide (h0 < l0) || decide (h1 < l1) then .tuple #[st 0 0 0 0 0, .bool false, .int .i64 2] else
  clipOut e (clipF (inF l0 l1 h0 h1) (marksN a b c d (distF a b c d)))
theorem okM_bd {x y : Int} (h : okM x y = true) : (-500 ≤ x ∧ x ≤ 500) ∧ (-500 ≤ y ∧ y ≤ 500) := by
  simp [okM, inB] at h
  omega
set_option maxRecDepth 20000 in
set_option maxHeartbeats 4000000 in
theorem ClipStrokeS_bad (a b c d e l0 l1 h0 h1 : Int) (ha : I16 a) (hb : I16 b) (hc : I16 c) (hd : I16 d) (he : I8 e) (hl0 : I16 l0) (hl1 : I16 l1) (hh0 : I16 h0) (hh1 : I16 h1) (hbad : (okS a b c d e && okM l0 l1 && okM h0 h1) = false) (w : World) : Calls Try.prog 21 #[st a b c d e, mk l0 l1, mk h0 h1] w (Gives (fun v => v = .tuple #[st 0 0 0 0 0, .bool false, .int .i64 1]) w) := by
  have H1 : Aside (∀ w, Calls Try.prog 46 #[mk l0 l1] w (Gives (isB (okM l0 l1)) w)) := l06MarkA l0 l1 hl0 hl1
  have H2 : Aside (∀ w, Calls Try.prog 46 #[mk h0 h1] w (Gives (isB (okM h0 h1)) w)) := l06MarkA h0 h1 hh0 hh1
  have K1 : (okM a b && okM c d && okD e) = okS a b c d e := rfl
  have t1 : True := trivial
  cases hq1 : okS a b c d e <;> cases hq2 : okM l0 l1 <;> cases hq3 : okM h0 h1
  all_goals first
    | (exfalso; simp [hq1, hq2, hq3] at hbad; done)
    | skip
  all_goals
    rw [hq2] at H1
    rw [hq3] at H2
    rw [hq1] at K1
    clear hbad hq1 hq2 hq3 hl0 hl1 hh0 hh1
    go_enter Try.func21, Try.ntmps21
    go_wp2_with (first | (go_at_call 36; refine (l06OkA _ w.heap.size a b c d e ha hb hc hd (by simp [go_sem]) (by simp [go_sem]) (by simp [go_sem]) (by simp [go_sem]) (by simp [go_sem]) (by simp; omega)).mono ?_; rw [K1]; rintro e w' ⟨_, rfl, rfl, hb⟩; obtain ⟨hcb, hfb⟩ := bcell hb; (try simp at hcb hfb); have hs := hb.size; (try simp at hs); have HB := Lib.hid hb; clear hb; (try (have hz0 : w.heap.size < w'.heap.size := (by omega))); (try (have hz1 : w.heap.size + 1 < w'.heap.size := (by omega))); (try (have hz2 : w.heap.size + 1 + 1 < w'.heap.size := (by omega))); (try (have hz3 : w.heap.size + 1 + 1 + 1 < w'.heap.size := (by omega))); (try (have hz4 : w.heap.size + 1 + 1 + 1 + 1 < w'.heap.size := (by omega)))) | (clear t1; go_at_call 46; refine (H1.out _).mono ?_; rintro e w' ⟨_, rfl, rfl, hb⟩; obtain ⟨hcb, hfb⟩ := bcell hb; (try simp at hcb hfb); have hs := hb.size; (try simp at hs); have HB := Lib.hid hb; clear hb; (try (have hz0 : w.heap.size < w'.heap.size := (by omega))); (try (have hz1 : w.heap.size + 1 < w'.heap.size := (by omega))); (try (have hz2 : w.heap.size + 1 + 1 < w'.heap.size := (by omega))); (try (have hz3 : w.heap.size + 1 + 1 + 1 < w'.heap.size := (by omega))); (try (have hz4 : w.heap.size + 1 + 1 + 1 + 1 < w'.heap.size := (by omega)))) | (go_at_call 46; refine (H2.out _).mono ?_; rintro e w' ⟨_, rfl, rfl, hb⟩; obtain ⟨hcb, hfb⟩ := bcell hb; (try simp at hcb hfb); have hs := hb.size; (try simp at hs); have HB := Lib.hid hb; clear hb; (try (have hz0 : w.heap.size < w'.heap.size := (by omega))); (try (have hz1 : w.heap.size + 1 < w'.heap.size := (by omega))); (try (have hz2 : w.heap.size + 1 + 1 < w'.heap.size := (by omega))); (try (have hz3 : w.heap.size + 1 + 1 + 1 < w'.heap.size := (by omega))); (try (have hz4 : w.heap.size + 1 + 1 + 1 + 1 < w'.heap.size := (by omega)))))
    all_goals
      simp [bodyPost, results, Try.results21, go_sem, *]
      exact ⟨_, rfl, rfl, (by ((try simp only [Hid] at *); repeat' (first | (with_reducible exact Below.refl _ _) | (with_reducible assumption) | (with_reducible refine below_drewN ?_ _) | (with_reducible refine Below.drew ?_) | (with_reducible refine below_alloc ?_) | (with_reducible refine below_set ?_ ?_) | (refine below_step (by with_reducible assumption) ?_) | (simp; done) | (simp; omega) | omega)))⟩
set_option maxRecDepth 20000 in
set_option maxHeartbeats 4000000 in
theorem ClipStrokeS_range (a b c d e l0 l1 h0 h1 : Int) (ha : I16 a) (hb : I16 b) (hc : I16 c) (hd : I16 d) (he : I8 e) (hl0 : I16 l0) (hl1 : I16 l1) (hh0 : I16 h0) (hh1 : I16 h1) (hok : (okS a b c d e && okM l0 l1 && okM h0 h1) = true) (hr : (decide (h0 < l0) || decide (h1 < l1)) = true) (w : World) : Calls Try.prog 21 #[st a b c d e, mk l0 l1, mk h0 h1] w (Gives (fun v => v = .tuple #[st 0 0 0 0 0, .bool false, .int .i64 2]) w) := by
  have hk : okS a b c d e = true ∧ okM l0 l1 = true ∧ okM h0 h1 = true := by simpa [and_assoc] using hok
  have H1 : Aside (∀ w, Calls Try.prog 46 #[mk l0 l1] w (Gives (isB (okM l0 l1)) w)) := l06MarkA l0 l1 hl0 hl1
  have H2 : Aside (∀ w, Calls Try.prog 46 #[mk h0 h1] w (Gives (isB (okM h0 h1)) w)) := l06MarkA h0 h1 hh0 hh1
  rw [hk.2.1] at H1
  rw [hk.2.2] at H2
  have K1 : (okM a b && okM c d && okD e) = true := hk.1
  have hm1 : okM a b = true ∧ okM c d = true := by simp at K1; exact ⟨K1.1.1, K1.1.2⟩
  have HMK : Aside (∀ w, Calls Try.prog 39 #[mk a b, mk c d] w fun e w' => ∃ v, e = .returned v ∧ Rls 2 w' v (rM (marksN a b c d (distF a b c d))) ∧ Below w.heap.size w w') := fun w => l06MarksS a b c d (okM_bd hm1.1).1 (okM_bd hm1.1).2 (okM_bd hm1.2).1 (okM_bd hm1.2).2 w
  have hdb := dist_bd (okM_bd hm1.1).1 (okM_bd hm1.1).2 (okM_bd hm1.2).1 (okM_bd hm1.2).2
  have hD : Aside (0 ≤ distF a b c d ∧ distF a b c d ≤ 1000) := ⟨hdb.1, hdb.2.1⟩
  obtain ⟨ms, hms, hlen⟩ : ∃ ms, marksN a b c d (distF a b c d) = ms ∧ ms.length ≤ 1001 := ⟨_, rfl, by rw [marksN_len]; omega⟩
  rw [hms] at HMK
  clear hok hk hm1 hdb hl0 hl1 hh0 hh1 hD
  have t1 : True := trivial
  by_cases g0 : h0 < l0
  all_goals
    try (have g1 : h1 < l1 := by simpa [g0] using hr)
    clear hr HMK
    go_enter Try.func21, Try.ntmps21
    go_wp2_with (first | (go_at_call 36; refine (l06OkA _ w.heap.size a b c d e ha hb hc hd (by simp [go_sem]) (by simp [go_sem]) (by simp [go_sem]) (by simp [go_sem]) (by simp [go_sem]) (by simp; omega)).mono ?_; rw [K1]; rintro e w' ⟨_, rfl, rfl, hb⟩; obtain ⟨hcb, hfb⟩ := bcell hb; (try simp at hcb hfb); have hs := hb.size; (try simp at hs); have HB := Lib.hid hb; clear hb; (try (have hz0 : w.heap.size < w'.heap.size := (by omega))); (try (have hz1 : w.heap.size + 1 < w'.heap.size := (by omega))); (try (have hz2 : w.heap.size + 1 + 1 < w'.heap.size := (by omega))); (try (have hz3 : w.heap.size + 1 + 1 + 1 < w'.heap.size := (by omega))); (try (have hz4 : w.heap.size + 1 + 1 + 1 + 1 < w'.heap.size := (by omega)))) | (clear t1; go_at_call 46; refine (H1.out _).mono ?_; rintro e w' ⟨_, rfl, rfl, hb⟩; obtain ⟨hcb, hfb⟩ := bcell hb; (try simp at hcb hfb); have hs := hb.size; (try simp at hs); have HB := Lib.hid hb; clear hb; (try (have hz0 : w.heap.size < w'.heap.size := (by omega))); (try (have hz1 : w.heap.size + 1 < w'.heap.size := (by omega))); (try (have hz2 : w.heap.size + 1 + 1 < w'.heap.size := (by omega))); (try (have hz3 : w.heap.size + 1 + 1 + 1 < w'.heap.size := (by omega))); (try (have hz4 : w.heap.size + 1 + 1 + 1 + 1 < w'.heap.size := (by omega)))) | (go_at_call 46; refine (H2.out _).mono ?_; rintro e w' ⟨_, rfl, rfl, hb⟩; obtain ⟨hcb, hfb⟩ := bcell hb; (try simp at hcb hfb); have hs := hb.size; (try simp at hs); have HB := Lib.hid hb; clear hb; (try (have hz0 : w.heap.size < w'.heap.size := (by omega))); (try (have hz1 : w.heap.size + 1 < w'.heap.size := (by omega))); (try (have hz2 : w.heap.size + 1 + 1 < w'.heap.size := (by omega))); (try (have hz3 : w.heap.size + 1 + 1 + 1 < w'.heap.size := (by omega))); (try (have hz4 : w.heap.size + 1 + 1 + 1 + 1 < w'.heap.size := (by omega)))))
    all_goals
      simp [bodyPost, results, Try.results21, go_sem, *]
      exact ⟨_, rfl, rfl, (by ((try simp only [Hid] at *); repeat' (first | (with_reducible exact Below.refl _ _) | (with_reducible assumption) | (with_reducible refine below_drewN ?_ _) | (with_reducible refine Below.drew ?_) | (with_reducible refine below_alloc ?_) | (with_reducible refine below_set ?_ ?_) | (refine below_step (by with_reducible assumption) ?_) | (simp; done) | (simp; omega) | omega)))⟩
set_option maxRecDepth 20000 in
set_option maxHeartbeats 4000000 in
theorem ClipStrokeS_main (a b c d e l0 l1 h0 h1 : Int) (ha : I16 a) (hb : I16 b) (hc : I16 c) (hd : I16 d) (he : I8 e) (hl0 : I16 l0) (hl1 : I16 l1) (hh0 : I16 h0) (hh1 : I16 h1) (hok : (okS a b c d e && okM l0 l1 && okM h0 h1) = true) (hr : (decide (h0 < l0) || decide (h1 < l1)) = false) (w : World) : Calls Try.prog 21 #[st a b c d e, mk l0 l1, mk h0 h1] w (Gives (fun v => v = clipOut e (clipF (inF l0 l1 h0 h1) (marksN a b c d (distF a b c d)))) w) := by
  have hk : okS a b c d e = true ∧ okM l0 l1 = true ∧ okM h0 h1 = true := by simpa [and_assoc] using hok
  have H1 : Aside (∀ w, Calls Try.prog 46 #[mk l0 l1] w (Gives (isB (okM l0 l1)) w)) := l06MarkA l0 l1 hl0 hl1
  have H2 : Aside (∀ w, Calls Try.prog 46 #[mk h0 h1] w (Gives (isB (okM h0 h1)) w)) := l06MarkA h0 h1 hh0 hh1
  rw [hk.2.1] at H1
  rw [hk.2.2] at H2
  have K1 : (okM a b && okM c d && okD e) = true := hk.1
  have hm1 : okM a b = true ∧ okM c d = true := by simp at K1; exact ⟨K1.1.1, K1.1.2⟩
  have HMK : Aside (∀ w, Calls Try.prog 39 #[mk a b, mk c d] w fun e w' => ∃ v, e = .returned v ∧ Rls 2 w' v (rM (marksN a b c d (distF a b c d))) ∧ Below w.heap.size w w') := fun w => l06MarksS a b c d (okM_bd hm1.1).1 (okM_bd hm1.1).2 (okM_bd hm1.2).1 (okM_bd hm1.2).2 w
  have hdb := dist_bd (okM_bd hm1.1).1 (okM_bd hm1.1).2 (okM_bd hm1.2).1 (okM_bd hm1.2).2
  have hD : Aside (0 ≤ distF a b c d ∧ distF a b c d ≤ 1000) := ⟨hdb.1, hdb.2.1⟩
  obtain ⟨ms, hms, hlen⟩ : ∃ ms, marksN a b c d (distF a b c d) = ms ∧ ms.length ≤ 1001 := ⟨_, rfl, by rw [marksN_len]; omega⟩
  rw [hms] at HMK
  clear hok hk hm1 hdb hl0 hl1 hh0 hh1 hD
  have t1 : True := trivial
  have g0 : ¬ h0 < l0 := by simp at hr; omega
  have g1 : ¬ h1 < l1 := by simp at hr; omega
  clear hr
  rw [hms]
  go_enter Try.func21, Try.ntmps21
  go_wp2_with (first | (go_at_call 36; refine (l06OkA _ w.heap.size a b c d e ha hb hc hd (by simp [go_sem]) (by simp [go_sem]) (by simp [go_sem]) (by simp [go_sem]) (by simp [go_sem]) (by simp; omega)).mono ?_; rw [K1]; rintro e w' ⟨_, rfl, rfl, hb⟩; obtain ⟨hcb, hfb⟩ := bcell hb; (try simp at hcb hfb); have hs := hb.size; (try simp at hs); have HB := Lib.hid hb; clear hb; (try (have hz0 : w.heap.size < w'.heap.size := (by omega))); (try (have hz1 : w.heap.size + 1 < w'.heap.size := (by omega))); (try (have hz2 : w.heap.size + 1 + 1 < w'.heap.size := (by omega))); (try (have hz3 : w.heap.size + 1 + 1 + 1 < w'.heap.size := (by omega))); (try (have hz4 : w.heap.size + 1 + 1 + 1 + 1 < w'.heap.size := (by omega)))) | (clear t1; go_at_call 46; refine (H1.out _).mono ?_; rintro e w' ⟨_, rfl, rfl, hb⟩; obtain ⟨hcb, hfb⟩ := bcell hb; (try simp at hcb hfb); have hs := hb.size; (try simp at hs); have HB := Lib.hid hb; clear hb; (try (have hz0 : w.heap.size < w'.heap.size := (by omega))); (try (have hz1 : w.heap.size + 1 < w'.heap.size := (by omega))); (try (have hz2 : w.heap.size + 1 + 1 < w'.heap.size := (by omega))); (try (have hz3 : w.heap.size + 1 + 1 + 1 < w'.heap.size := (by omega))); (try (have hz4 : w.heap.size + 1 + 1 + 1 + 1 < w'.heap.size := (by omega)))) | (go_at_call 46; refine (H2.out _).mono ?_; rintro e w' ⟨_, rfl, rfl, hb⟩; obtain ⟨hcb, hfb⟩ := bcell hb; (try simp at hcb hfb); have hs := hb.size; (try simp at hs); have HB := Lib.hid hb; clear hb; (try (have hz0 : w.heap.size < w'.heap.size := (by omega))); (try (have hz1 : w.heap.size + 1 < w'.heap.size := (by omega))); (try (have hz2 : w.heap.size + 1 + 1 < w'.heap.size := (by omega))); (try (have hz3 : w.heap.size + 1 + 1 + 1 < w'.heap.size := (by omega))); (try (have hz4 : w.heap.size + 1 + 1 + 1 + 1 < w'.heap.size := (by omega)))) | (go_at_call 39; refine (HMK.out _).mono ?_; rintro e w' ⟨vL, rfl, hR, hb⟩; obtain ⟨aL, cL, eL, hRc⟩ := hR; subst eL; rw [rM_len]; have HR : Aside (Rls 2 w' (.slice aL ms.length cL) (rM ms)) := ⟨aL, cL, by rw [rM_len], hRc⟩; clear hRc; obtain ⟨hcb, hfb⟩ := bcell hb; (try simp at hcb hfb); have hs := hb.size; (try simp at hs); have HB := Lib.hid hb; clear hb; (try (have hz0 : w.heap.size < w'.heap.size := (by omega))); (try (have hz1 : w.heap.size + 1 < w'.heap.size := (by omega))); (try (have hz2 : w.heap.size + 1 + 1 < w'.heap.size := (by omega))); (try (have hz3 : w.heap.size + 1 + 1 + 1 < w'.heap.size := (by omega))); (try (have hz4 : w.heap.size + 1 + 1 + 1 + 1 < w'.heap.size := (by omega))); have CW : Aside (w'.cell? ⟨w.heap.size + 1, 0, none⟩ = some (.int .i16 l0) ∧ w'.cell? ⟨w.heap.size + 1, 1, none⟩ = some (.int .i16 l1) ∧ w'.cell? ⟨w.heap.size + 1 + 1, 0, none⟩ = some (.int .i16 h0) ∧ w'.cell? ⟨w.heap.size + 1 + 1, 1, none⟩ = some (.int .i16 h1) ∧ w.heap.size + 1 + 1 < w'.heap.size ∧ Below w.heap.size w w') := ⟨(by simp [go_sem, *]), (by simp [go_sem, *]), (by simp [go_sem, *]), (by simp [go_sem, *]), (by omega), (by ((try simp only [Hid] at *); repeat' (first | (with_reducible exact Below.refl _ _) | (with_reducible assumption) | (with_reducible refine below_drewN ?_ _) | (with_reducible refine Below.drew ?_) | (with_reducible refine below_alloc ?_) | (with_reducible refine below_set ?_ ?_) | (refine below_step (by with_reducible assumption) ?_) | (simp; done) | (simp; omega) | omega)))⟩))
  generalize hp : inF l0 l1 h0 h1 = p
  have HP : Aside (inF l0 l1 h0 h1 = p) := hp
  clear hp H1 H2 K1 g0 g1
  go_loopg [11, 12] ms.length (fun k s11 s12 wr => ∃ (i : Nat), s12 = .int .i64 i ∧ i + k = ms.length ∧ s11 = .bool (clipF p (ms.take i)).isSome ∧ Mem w' wr [] [(w'.heap.size, clipCells e (clipF p (ms.take i)))])
  · exact ⟨0, rfl, by omega, rfl, (Mem.start w').alloc _ _⟩
  · obtain ⟨i, rfl, hik, rfl, HM⟩ := hrel
    have B : Aside (i + gk = ms.length ∧ ms.length ≤ 1001) := ⟨hik, hlen⟩
    have hMA : Aside (Mem w' wr [] [(w'.heap.size, clipCells e (clipF p (ms.take i)))]) := HM
    by_cases hi : i < ms.length
    · obtain ⟨m, hm⟩ : ∃ m, ms[i]? = some m := ⟨ms[i], List.getElem?_eq_getElem hi⟩
      obtain ⟨b, c', e0, hbl, hcells⟩ := HR.out.at (rM_get hm)
      rw [rM_len] at e0
      cases e0
      have hi' : (i : Int) < (ms.length : Int) := by omega
      have hi0 : (0 : Int) ≤ (i : Int) := Int.natCast_nonneg _
      have hCT := clip_take (p := p) hm
      have CR : ∀ W, Below w'.heap.size w' W → ∀ k x, [Value.int .i16 m.1, .int .i16 m.2][k]? = some x → W.cell? ((b.add (i * 2)).add k) = some x := fun W hW => cells_later hW hbl hcells
      have hK : ∀ W, Bel wr W → W.cell? (b.add (i * 2)) = some (.int .i16 m.1) ∧ W.cell? ⟨(b.add (i * 2)).block, (b.add (i * 2)).off + 1, none⟩ = some (.int .i16 m.2) ∧ W.cell? ⟨w.heap.size + 1, 0, none⟩ = some (.int .i16 l0) ∧ W.cell? ⟨w.heap.size + 1, 1, none⟩ = some (.int .i16 l1) ∧ W.cell? ⟨w.heap.size + 1 + 1, 0, none⟩ = some (.int .i16 h0) ∧ W.cell? ⟨w.heap.size + 1 + 1, 1, none⟩ = some (.int .i16 h1) ∧ Bel wr W := fun W hW => by
        have hb2 := below_step hW.out hMA.out.below
        obtain ⟨c1, c2, c3, c4, hsz, _⟩ := CW.out
        obtain ⟨hcc, _⟩ := bcell hb2
        exact ⟨CR W hb2 0 _ rfl, CR W hb2 1 _ rfl, by rw [hcc _ _ (by omega)]; exact c1, by rw [hcc _ _ (by omega)]; exact c2, by rw [hcc _ _ (by omega)]; exact c3, by rw [hcc _ _ (by omega)]; exact c4, hW⟩
      have HW : Aside (∀ w, Calls Try.prog 47 #[mk m.1 m.2, mk l0 l1, mk h0 h1] w (Gives (isB (p m)) w)) := fun w => HP.out ▸ l06WithinA m.1 m.2 l0 l1 h0 h1 w
      have HCT : Aside (clipF p (ms.take (i + 1)) = clipStep p (clipF p (ms.take i)) m) := hCT
      have HCR : Aside (∀ W, Below w'.heap.size w' W → ∀ k x, [Value.int .i16 m.1, .int .i16 m.2][k]? = some x → W.cell? ((b.add (i * 2)).add k) = some x) := CR
      clear hik HM hm hCT CR hcells hbl
      generalize clipF p (ms.take i) = sT at *
      cases hq : p m
      · have HQ : Aside (p m = false) := hq
        rw [hq] at HW
        clear hq
        go_wp2_with fail
        go_region_held3 (fun W => W.cell? (b.add (i * 2)) = some (.int .i16 m.1) ∧ W.cell? ⟨(b.add (i * 2)).block, (b.add (i * 2)).off + 1, none⟩ = some (.int .i16 m.2) ∧ W.cell? ⟨w.heap.size + 1, 0, none⟩ = some (.int .i16 l0) ∧ W.cell? ⟨w.heap.size + 1, 1, none⟩ = some (.int .i16 l1) ∧ W.cell? ⟨w.heap.size + 1 + 1, 0, none⟩ = some (.int .i16 h0) ∧ W.cell? ⟨w.heap.size + 1 + 1, 1, none⟩ = some (.int .i16 h1) ∧ Bel wr W) (first | assumption | (refine hK _ ?_; (repeat' (first | exact Bel.refl _ | assumption | exact And.right (And.right (And.right (And.right (And.right (And.right (by assumption)))))) | refine Bel.drew ?_ | refine Bel.step ?_ hb)); done) | go_keep) (first | (go_at_call 47; refine (HW.out _).mono ?_; rintro e w2 ⟨_, rfl, rfl, hb⟩; have HBl := Bel.step (And.right (And.right (And.right (And.right (And.right (And.right (by assumption))))))) hb))
        all_goals go_wp2_with fail
        obtain ⟨hik, hlen'⟩ := B.out
        go_roundg (gk - 1)
        · refine ⟨i + 1, ?_, by omega, ?_, ?_⟩
          · first
              | (congr 1; done)
              | (congr 1; unfold wrap64; omega)
          · rw [HCT.out, clip_no HQ.out]
          · rw [HCT.out, clip_no HQ.out]
            exact hMA.out.drew.call hb
        · omega
      · have HQ : Aside (p m = true) := hq
        rw [hq] at HW
        clear hq
        have h28 : Aside ((Try.prog.info? 28).map (·.size) = some 2) := (by kernel_rfl : (Try.prog.info? 28).map (·.size) = some 2)
        have t1 : True := trivial
        have t2 : True := trivial
        rcases sT with _ | ⟨A, B2⟩
        · simp only [Option.isSome_none]
          go_wp2_with fail
          go_region_held3 (fun W => W.cell? (b.add (i * 2)) = some (.int .i16 m.1) ∧ W.cell? ⟨(b.add (i * 2)).block, (b.add (i * 2)).off + 1, none⟩ = some (.int .i16 m.2) ∧ W.cell? ⟨w.heap.size + 1, 0, none⟩ = some (.int .i16 l0) ∧ W.cell? ⟨w.heap.size + 1, 1, none⟩ = some (.int .i16 l1) ∧ W.cell? ⟨w.heap.size + 1 + 1, 0, none⟩ = some (.int .i16 h0) ∧ W.cell? ⟨w.heap.size + 1 + 1, 1, none⟩ = some (.int .i16 h1) ∧ Bel wr W) (first | assumption | (refine hK _ ?_; (repeat' (first | exact Bel.refl _ | assumption | exact And.right (And.right (And.right (And.right (And.right (And.right (by assumption)))))) | refine Bel.drew ?_ | refine Bel.step ?_ hb)); done) | go_keep) (first | (go_at_call 47; refine (HW.out _).mono ?_; rintro e w2 ⟨_, rfl, rfl, hb⟩; have HBl := Bel.step (And.right (And.right (And.right (And.right (And.right (And.right (by assumption))))))) hb))
          have hM2 : Aside (Mem w' w2 [] [(w'.heap.size, [.int .i16 0, .int .i16 0, .int .i16 0, .int .i16 0, .int .i8 e])]) := hMA.out.drew.call hb
          clear hK
          go_wp2_with (first | (refine wpList_idxR rfl rfl (by kernel_rfl) (by kernel_rfl) rfl rfl (Int.natCast_nonneg _) hi' ?_; simp only [Int.toNat_natCast]) | (clear t1; refine wpList_rowR rfl rfl (n := 2) (by kernel_rfl) rfl rfl (HCR.out _ hM2.out.below) ?_) | (clear t2; refine wpList_store (b := w'.heap.size) (off := 0) (cs := [.int .i16 0, .int .i16 0, .int .i16 0, .int .i16 0, .int .i8 e]) (vs := [.int .i16 m.1, .int .i16 m.2]) hM2.out 0 rfl rfl rfl rfl rfl rfl h28.out rfl rfl ?_; intro w3 hM3; have hM4 : Aside (Mem w' w3 [] [(w'.heap.size, splice ([.int .i16 0, .int .i16 0, .int .i16 0, .int .i16 0, .int .i8 e]) 0 [.int .i16 m.1, .int .i16 m.2])]) := hM3; clear hM3) | (refine wpList_rowR rfl rfl (n := 2) (by kernel_rfl) rfl rfl (HCR.out _ hM4.out.below) ?_) | (refine wpList_store (b := w'.heap.size) (off := 2) (cs := splice [.int .i16 0, .int .i16 0, .int .i16 0, .int .i16 0, .int .i8 e] 0 [.int .i16 m.1, .int .i16 m.2]) (vs := [.int .i16 m.1, .int .i16 m.2]) hM4.out 0 rfl rfl rfl rfl rfl rfl h28.out rfl rfl ?_; intro w3 hM3; have hM6 : Aside (Mem w' w3 [] [(w'.heap.size, splice (splice [.int .i16 0, .int .i16 0, .int .i16 0, .int .i16 0, .int .i8 e] 0 [.int .i16 m.1, .int .i16 m.2]) 2 [.int .i16 m.1, .int .i16 m.2])]) := hM3; clear hM3))
          obtain ⟨hik, hlen'⟩ := B.out
          go_roundg (gk - 1)
          · refine ⟨i + 1, ?_, by omega, ?_, ?_⟩
            · first
                | (congr 1; done)
                | (congr 1; unfold wrap64; omega)
            · rw [HCT.out, clip_yes HQ.out]; rfl
            · rw [HCT.out, clip_yes HQ.out]
              exact hM6.out
          · omega
        · simp only [Option.isSome_some]
          go_wp2_with fail
          go_region_held3 (fun W => W.cell? (b.add (i * 2)) = some (.int .i16 m.1) ∧ W.cell? ⟨(b.add (i * 2)).block, (b.add (i * 2)).off + 1, none⟩ = some (.int .i16 m.2) ∧ W.cell? ⟨w.heap.size + 1, 0, none⟩ = some (.int .i16 l0) ∧ W.cell? ⟨w.heap.size + 1, 1, none⟩ = some (.int .i16 l1) ∧ W.cell? ⟨w.heap.size + 1 + 1, 0, none⟩ = some (.int .i16 h0) ∧ W.cell? ⟨w.heap.size + 1 + 1, 1, none⟩ = some (.int .i16 h1) ∧ Bel wr W) (first | assumption | (refine hK _ ?_; (repeat' (first | exact Bel.refl _ | assumption | exact And.right (And.right (And.right (And.right (And.right (And.right (by assumption)))))) | refine Bel.drew ?_ | refine Bel.step ?_ hb)); done) | go_keep) (first | (go_at_call 47; refine (HW.out _).mono ?_; rintro e w2 ⟨_, rfl, rfl, hb⟩; have HBl := Bel.step (And.right (And.right (And.right (And.right (And.right (And.right (by assumption))))))) hb))
          have hM2 : Aside (Mem w' w2 [] [(w'.heap.size, [.int .i16 A.1, .int .i16 A.2, .int .i16 B2.1, .int .i16 B2.2, .int .i8 e])]) := hMA.out.drew.call hb
          clear hK
          go_wp2_with (first | (refine wpList_idxR rfl rfl (by kernel_rfl) (by kernel_rfl) rfl rfl (Int.natCast_nonneg _) hi' ?_; simp only [Int.toNat_natCast]) | (refine wpList_rowR rfl rfl (n := 2) (by kernel_rfl) rfl rfl (HCR.out _ hM2.out.below) ?_) | (refine wpList_store (b := w'.heap.size) (off := 2) (cs := [.int .i16 A.1, .int .i16 A.2, .int .i16 B2.1, .int .i16 B2.2, .int .i8 e]) (vs := [.int .i16 m.1, .int .i16 m.2]) hM2.out 0 rfl rfl rfl rfl rfl rfl h28.out rfl rfl ?_; intro w3 hM3; have hM6 : Aside (Mem w' w3 [] [(w'.heap.size, splice ([.int .i16 A.1, .int .i16 A.2, .int .i16 B2.1, .int .i16 B2.2, .int .i8 e]) 2 [.int .i16 m.1, .int .i16 m.2])]) := hM3; clear hM3))
          obtain ⟨hik, hlen'⟩ := B.out
          go_roundg (gk - 1)
          · refine ⟨i + 1, ?_, by omega, ?_, ?_⟩
            · first
                | (congr 1; done)
                | (congr 1; unfold wrap64; omega)
            · rw [HCT.out, clip_yes HQ.out]; rfl
            · rw [HCT.out, clip_yes HQ.out]
              exact hM6.out
          · omega
    · have hi' : ¬ ((i : Int) < (ms.length : Int)) := by omega
      have hie : i = ms.length := by omega
      subst hie
      rw [List.take_length] at *
      obtain ⟨hcc, hff⟩ := bcell HM.below
      have hBW := below_step HM.below CW.out.2.2.2.2.2
      have hsz := HM.below.size
      rcases hcf : clipF p ms with _ | ⟨A, B2⟩
      · rw [hcf] at HM
        simp only [Option.isSome_none]
        go_wp2_with fail
        simp [bodyPost, results, Try.results21, go_sem, *]
        exact ⟨_, rfl, by rw [HP.out, hcf]; rfl, (by ((try simp only [Hid] at *); repeat' (first | (with_reducible exact Below.refl _ _) | (with_reducible assumption) | (with_reducible refine below_drewN ?_ _) | (with_reducible refine Below.drew ?_) | (with_reducible refine below_alloc ?_) | (with_reducible refine below_set ?_ ?_) | (refine below_step (by with_reducible assumption) ?_) | (simp; done) | (simp; omega) | omega)))⟩
      · rw [hcf] at HM
        simp only [Option.isSome_some]
        obtain ⟨c0, _⟩ := Mem.cellAt HM 0 (.int .i16 A.1) rfl
        obtain ⟨c1, _⟩ := Mem.cellAt HM 1 (.int .i16 A.2) rfl
        obtain ⟨c2, _⟩ := Mem.cellAt HM 2 (.int .i16 B2.1) rfl
        obtain ⟨c3, _⟩ := Mem.cellAt HM 3 (.int .i16 B2.2) rfl
        obtain ⟨c4, _⟩ := Mem.cellAt HM 4 (.int .i8 e) rfl
        go_wp2_with fail
        simp [bodyPost, results, Try.results21, go_sem, *]
        exact ⟨_, rfl, by rw [HP.out, hcf]; rfl, (by ((try simp only [Hid] at *); repeat' (first | (with_reducible exact Below.refl _ _) | (with_reducible assumption) | (with_reducible refine below_drewN ?_ _) | (with_reducible refine Below.drew ?_) | (with_reducible refine below_alloc ?_) | (with_reducible refine below_set ?_ ?_) | (refine below_step (by with_reducible assumption) ?_) | (simp; done) | (simp; omega) | omega)))⟩
end Go.Proofs.Ytbkcoiojcjmmlaa
