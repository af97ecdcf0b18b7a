/- Contracts: sheets: a mark is put. -/
import Derived.Test.YtbhbdpcefgledaaMrkF
import Derived.StillTailTactics
namespace Go.Proofs.Ytbhbdpcefgledaa
--## d
open Go.RowKit Go.Mem
set_option linter.unusedSimpArgs false
set_option linter.unusedVariables false
set_option maxRecDepth 20000
--## d
def rU (zs : List Int) : List Value := zs.map fun z => .int .u64 z
--## d
theorem rU_len {zs : List Int} : (rU zs).length = zs.length := by simp [rU]
--## d
theorem rU_get {zs : List Int} {i : Nat} {z : Int} (h : zs[i]? = some z) : (rU zs)[i]? = some (.int .u64 z) := by simp [rU, h]
--## d
def onF (x y : Int) : Bool := decide (0 ≤ x) && decide (x ≤ 63) && decide (0 ≤ y) && decide (y ≤ 63)
--## d
/-- the bit of a mark, set; cleared as the model does it; cleared as the program does it -/
def setB (z : Int) (x : Nat) : Int := bits BinOp.or IntKind.u64 z (IntKind.u64.wrap (2 ^ x))
--## d
def clrS (z : Int) (x : Nat) : Int := bits BinOp.xor IntKind.u64 (setB z x) (IntKind.u64.wrap (2 ^ x))
--## d
def clrI (z : Int) (x : Nat) : Int := bits BinOp.andNot IntKind.u64 z (IntKind.u64.wrap (2 ^ x))
--## d
def putS (zs : List Int) (ink : Bool) (x y : Int) : List Int := if onF x y then zs.set y.toNat (if ink then setB (zs.getD y.toNat 0) x.toNat else clrS (zs.getD y.toNat 0) x.toNat) else zs
--## d
def putI (zs : List Int) (ink : Bool) (x y : Int) : List Int := if onF x y then zs.set y.toNat (if ink then setB (zs.getD y.toNat 0) x.toNat else clrI (zs.getD y.toNat 0) x.toNat) else zs
--## d
theorem putS_len (zs : List Int) (ink : Bool) (x y : Int) : (putS zs ink x y).length = zs.length := by unfold putS; split <;> simp
--## d
theorem putI_len (zs : List Int) (ink : Bool) (x y : Int) : (putI zs ink x y).length = zs.length := by unfold putI; split <;> simp
--## d
theorem rU_set (zs : List Int) (y : Nat) (v : Int) (h : y < zs.length) : splice (rU zs) y [.int .u64 v] = rU (zs.set y v) := by
  apply List.ext_getElem?
  intro j
  rw [splice_get _ _ _ _ (by rw [rU_len]; simp; omega)]
  unfold rU
  rw [List.getElem?_map, List.getElem?_map, List.getElem?_set]
  by_cases hj : j = y
  · subst hj
    rw [if_pos (by simp)]
    simp [h]
  · rw [if_neg (by simp; omega), if_neg (by omega)]
--## d
theorem onF_true {x y : Int} (h : onF x y = true) : ∃ a b : Nat, x = a ∧ y = b ∧ a < 64 ∧ b < 64 := by
  simp [onF] at h
  exact ⟨x.toNat, y.toNat, by omega, by omega, by omega, by omega⟩
--## d
set_option maxHeartbeats 1000000 in
theorem isOnSheetI (x y : Int) (w : World) : Calls Try.prog 83 #[mk x y] w (Gives (isB (onF x y)) w) := by
  have e : (decide ((0 : Int) ≤ x) && decide (x ≤ 63) && decide ((0 : Int) ≤ y) && decide (y ≤ 63)) = onF x y := rfl
  go_enter Try.func83, Try.ntmps83
  go_wp2_with (first | (go_at_call 81; refine (isWithinA _ _ _ _ _ _ _).mono ?_; rintro e w' ⟨_, rfl, rfl, hb⟩; obtain ⟨hc, hf⟩ := bcell hb; (try simp at hc hf); have hs := hb.size; (try simp at hs); (try (have hz0 : w.heap.size < w'.heap.size := (by omega))); (try (have hz1 : w.heap.size + 1 < w'.heap.size := (by omega))); (try (have hz2 : w.heap.size + 1 + 1 < w'.heap.size := (by omega))); (try (have hz3 : w.heap.size + 1 + 1 + 1 < w'.heap.size := (by omega))); have HB := Lib.hid hb; clear hb hs))
  simp [bodyPost, results, Try.results83, go_sem]
  exact ⟨_, rfl, by rw [isB, ← e], (by ((try simp only [Hid] at *); repeat' (first | (with_reducible exact Below.refl _ _) | (with_reducible assumption) | (with_reducible refine below_drewN ?_ _) | (with_reducible refine Below.drew ?_) | (with_reducible refine below_alloc ?_) | (with_reducible refine below_set ?_ ?_) | (refine below_step (by with_reducible assumption) ?_) | (simp; done) | (simp; omega) | omega)))⟩
--## d
set_option maxHeartbeats 1000000 in
theorem l06OnS (x y : Int) (w : World) : Calls Try.prog 78 #[mk x y] w (Gives (isB (onF x y)) w) := by
  go_enter Try.func78, Try.ntmps78
  go_wp2_with fail
  all_goals
    simp [bodyPost, results, Try.results78, go_sem, *]
    refine ⟨_, rfl, ?_, (by ((try simp only [Hid] at *); repeat' (first | (with_reducible exact Below.refl _ _) | (with_reducible assumption) | (with_reducible refine below_drewN ?_ _) | (with_reducible refine Below.drew ?_) | (with_reducible refine below_alloc ?_) | (with_reducible refine below_set ?_ ?_) | (refine below_step (by with_reducible assumption) ?_) | (simp; done) | (simp; omega) | omega)))⟩
    have e : onF x y = (decide (0 ≤ x) && decide (x < 64) && decide (0 ≤ y) && decide (y < 64)) := by
      unfold onF
      rw [show (decide (x ≤ 63)) = decide (x < 64) by congr 1; apply propext; omega, show (decide (y ≤ 63)) = decide (y < 64) by congr 1; apply propext; omega]
    rw [e]
    simp_all [isB]
    try (intros; omega)
--## d
set_option maxHeartbeats 4000000 in
theorem l06PutS_off (g : Nat) (x y : Int) (ink : Bool) (w : World) (ho : onF x y = false) : Calls Try.prog 57 #[.pointer (some ⟨g, 0, none⟩), mk x y, .bool ink] w (fun e w' => e = .returned (.tuple #[]) ∧ Below w.heap.size w w') := by
  have HO : ∀ w, Calls Try.prog 78 #[mk x y] w (Gives (isB false) w) := fun w => ho ▸ l06OnS x y w
  go_enter Try.func57, Try.ntmps57
  go_wp2_with (first | (go_at_call 78; refine (HO _).mono ?_; rintro e w' ⟨_, rfl, rfl, hb⟩; obtain ⟨hc, hf⟩ := bcell hb; (try simp at hc hf); have hs := hb.size; (try simp at hs); (try (have hz0 : w.heap.size < w'.heap.size := (by omega))); (try (have hz1 : w.heap.size + 1 < w'.heap.size := (by omega))); (try (have hz2 : w.heap.size + 1 + 1 < w'.heap.size := (by omega))); (try (have hz3 : w.heap.size + 1 + 1 + 1 < w'.heap.size := (by omega))); have HB := Lib.hid hb; clear hb hs))
  simp [bodyPost, results, Try.results57, go_sem]
  exact (by ((try simp only [Hid] at *); repeat' (first | (with_reducible exact Below.refl _ _) | (with_reducible assumption) | (with_reducible refine below_drewN ?_ _) | (with_reducible refine Below.drew ?_) | (with_reducible refine below_alloc ?_) | (with_reducible refine below_set ?_ ?_) | (refine below_step (by with_reducible assumption) ?_) | (simp; done) | (simp; omega) | omega)))
--## d
set_option maxHeartbeats 4000000 in
theorem putI_off (g : Nat) (x y : Int) (ink : Bool) (w : World) (ho : onF x y = false) : Calls Try.prog 64 #[.pointer (some ⟨g, 0, none⟩), mk x y, .bool ink] w (fun e w' => e = .returned (.tuple #[]) ∧ Below w.heap.size w w') := by
  have HO : ∀ w, Calls Try.prog 83 #[mk x y] w (Gives (isB false) w) := fun w => ho ▸ isOnSheetI x y w
  go_enter Try.func64, Try.ntmps64
  go_wp2_with (first | (go_at_call 83; refine (HO _).mono ?_; rintro e w' ⟨_, rfl, rfl, hb⟩; obtain ⟨hc, hf⟩ := bcell hb; (try simp at hc hf); have hs := hb.size; (try simp at hs); (try (have hz0 : w.heap.size < w'.heap.size := (by omega))); (try (have hz1 : w.heap.size + 1 < w'.heap.size := (by omega))); (try (have hz2 : w.heap.size + 1 + 1 < w'.heap.size := (by omega))); (try (have hz3 : w.heap.size + 1 + 1 + 1 < w'.heap.size := (by omega))); have HB := Lib.hid hb; clear hb hs))
  simp [bodyPost, results, Try.results64, go_sem]
  exact (by ((try simp only [Hid] at *); repeat' (first | (with_reducible exact Below.refl _ _) | (with_reducible assumption) | (with_reducible refine below_drewN ?_ _) | (with_reducible refine Below.drew ?_) | (with_reducible refine below_alloc ?_) | (with_reducible refine below_set ?_ ?_) | (refine below_step (by with_reducible assumption) ?_) | (simp; done) | (simp; omega) | omega)))
--## d
set_option maxHeartbeats 4000000 in
theorem l06PutS_true (g x y : Nat) (z : Int) (zs : List Int) (w0 w : World) {r l : Blocks} (hM : Mem w0 w r ((g, rU zs) :: l)) (hl : zs.length = 64) (hx : x < 64) (hy : y < 64) (hz : zs[y]? = some z) : Calls Try.prog 57 #[.pointer (some ⟨g, 0, none⟩), mk x y, .bool true] w (fun e w' => e = .returned (.tuple #[]) ∧ Mem w0 w' r ((g, rU (zs.set y (setB z x))) :: l)) := by
  have HO : ∀ w, Calls Try.prog 78 #[mk x y] w (Gives (isB true) w) := fun w => by
    have h := l06OnS x y w
    rw [show onF x y = true by simp [onF]; omega] at h
    exact h
  obtain ⟨q1, q2⟩ := Mem.cellIn hM (List.mem_cons_self ..) y _ (rU_get hz)
  have hgb : g < w.heap.size := (hM.new _ (List.mem_cons_self ..)).2.1
  have hx0 : (0 : Int) ≤ (x : Int) := Int.natCast_nonneg _
  have hx1 : (x : Int) ≤ 63 := by omega
  have hy0 : (0 : Int) ≤ (y : Int) := Int.natCast_nonneg _
  have hy1 : (y : Int) < 64 := by omega
  have h46 : Aside ((Try.prog.info? 22).map (·.size) = some 1) := (by kernel_rfl : (Try.prog.info? 22).map (·.size) = some 1)
  have HM : Aside (Mem w0 w r ((g, rU zs) :: l)) := hM
  clear hM
  go_enter Try.func57, Try.ntmps57
  go_wp2_with (go_at_call 78; refine (HO _).mono ?_; rintro e w' ⟨_, rfl, rfl, hb⟩; have HM2 : Aside (Mem w0 w'.drew r ((g, rU zs) :: l)) := ((HM.out.call (below_alloc (Below.refl _ _))).call hb).drew; obtain ⟨hc, hf⟩ := bcell hb; (try simp at hc hf); have hs := hb.size; (try simp at hs); (try (have hz0 : w.heap.size < w'.heap.size := (by omega))); (try (have hzg : g < w'.heap.size := (by omega))); have HB := Lib.hid hb; clear hb hs)
  go_still_tail 10, (by kernel_rfl)
  change wpList _ _ _ _ _ w'.drew
  generalize w'.drew = w2 at *
  go_wp2_with (refine wpList_store (b := g) (off := y) (cs := rU zs) (vs := [.int .u64 (setB z x)]) HM2.out 0 rfl rfl rfl rfl rfl rfl h46.out rfl (Nat.ble_eq_true_of_le (by rw [rU_len]; simp only [List.length_cons, List.length_nil, List.length_set]; omega)) ?_; intro w3 hM3; have HM3 : Aside (Mem w0 w3 r ((g, splice (rU zs) y [.int .u64 (setB z x)]) :: l)) := hM3; clear hM3)
  simp [bodyPost, results, Try.results57, go_sem]
  rw [← rU_set _ _ _ (by omega)]
  exact HM3.out
--## d
set_option maxHeartbeats 4000000 in
theorem putI_true (g x y : Nat) (z : Int) (zs : List Int) (w0 w : World) {r l : Blocks} (hM : Mem w0 w r ((g, rU zs) :: l)) (hl : zs.length = 64) (hx : x < 64) (hy : y < 64) (hz : zs[y]? = some z) : Calls Try.prog 64 #[.pointer (some ⟨g, 0, none⟩), mk x y, .bool true] w (fun e w' => e = .returned (.tuple #[]) ∧ Mem w0 w' r ((g, rU (zs.set y (setB z x))) :: l)) := by
  have HO : ∀ w, Calls Try.prog 83 #[mk x y] w (Gives (isB true) w) := fun w => by
    have h := isOnSheetI x y w
    rw [show onF x y = true by simp [onF]; omega] at h
    exact h
  obtain ⟨q1, q2⟩ := Mem.cellIn hM (List.mem_cons_self ..) y _ (rU_get hz)
  have hgb : g < w.heap.size := (hM.new _ (List.mem_cons_self ..)).2.1
  have hx0 : (0 : Int) ≤ (x : Int) := Int.natCast_nonneg _
  have hx1 : (x : Int) ≤ 63 := by omega
  have hy0 : (0 : Int) ≤ (y : Int) := Int.natCast_nonneg _
  have hy1 : (y : Int) < 64 := by omega
  have h46 : Aside ((Try.prog.info? 22).map (·.size) = some 1) := (by kernel_rfl : (Try.prog.info? 22).map (·.size) = some 1)
  have HM : Aside (Mem w0 w r ((g, rU zs) :: l)) := hM
  clear hM
  go_enter Try.func64, Try.ntmps64
  go_wp2_with (go_at_call 83; refine (HO _).mono ?_; rintro e w' ⟨_, rfl, rfl, hb⟩; have HM2 : Aside (Mem w0 w'.drew r ((g, rU zs) :: l)) := ((HM.out.call (below_alloc (Below.refl _ _))).call hb).drew; obtain ⟨hc, hf⟩ := bcell hb; (try simp at hc hf); have hs := hb.size; (try simp at hs); (try (have hz0 : w.heap.size < w'.heap.size := (by omega))); (try (have hzg : g < w'.heap.size := (by omega))); have HB := Lib.hid hb; clear hb hs)
  go_still_tail 12, (by kernel_rfl)
  change wpList _ _ _ _ _ w'.drew
  generalize w'.drew = w2 at *
  go_wp2_with (refine wpList_store (b := g) (off := y) (cs := rU zs) (vs := [.int .u64 (setB z x)]) HM2.out 0 rfl rfl rfl rfl rfl rfl h46.out rfl (Nat.ble_eq_true_of_le (by rw [rU_len]; simp only [List.length_cons, List.length_nil, List.length_set]; omega)) ?_; intro w3 hM3; have HM3 : Aside (Mem w0 w3 r ((g, splice (rU zs) y [.int .u64 (setB z x)]) :: l)) := hM3; clear hM3)
  simp [bodyPost, results, Try.results64, go_sem]
  rw [← rU_set _ _ _ (by omega)]
  exact HM3.out
--## d
set_option maxHeartbeats 4000000 in
theorem putI_false (g x y : Nat) (z : Int) (zs : List Int) (w0 w : World) {r l : Blocks} (hM : Mem w0 w r ((g, rU zs) :: l)) (hl : zs.length = 64) (hx : x < 64) (hy : y < 64) (hz : zs[y]? = some z) : Calls Try.prog 64 #[.pointer (some ⟨g, 0, none⟩), mk x y, .bool false] w (fun e w' => e = .returned (.tuple #[]) ∧ Mem w0 w' r ((g, rU (zs.set y (clrI z x))) :: l)) := by
  have HO : ∀ w, Calls Try.prog 83 #[mk x y] w (Gives (isB true) w) := fun w => by
    have h := isOnSheetI x y w
    rw [show onF x y = true by simp [onF]; omega] at h
    exact h
  obtain ⟨q1, q2⟩ := Mem.cellIn hM (List.mem_cons_self ..) y _ (rU_get hz)
  have hgb : g < w.heap.size := (hM.new _ (List.mem_cons_self ..)).2.1
  have hx0 : (0 : Int) ≤ (x : Int) := Int.natCast_nonneg _
  have hx1 : (x : Int) ≤ 63 := by omega
  have hy0 : (0 : Int) ≤ (y : Int) := Int.natCast_nonneg _
  have hy1 : (y : Int) < 64 := by omega
  have h46 : Aside ((Try.prog.info? 22).map (·.size) = some 1) := (by kernel_rfl : (Try.prog.info? 22).map (·.size) = some 1)
  have HM : Aside (Mem w0 w r ((g, rU zs) :: l)) := hM
  clear hM
  go_enter Try.func64, Try.ntmps64
  go_wp2_with (go_at_call 83; refine (HO _).mono ?_; rintro e w' ⟨_, rfl, rfl, hb⟩; have HM2 : Aside (Mem w0 w'.drew r ((g, rU zs) :: l)) := ((HM.out.call (below_alloc (Below.refl _ _))).call hb).drew; obtain ⟨hc, hf⟩ := bcell hb; (try simp at hc hf); have hs := hb.size; (try simp at hs); (try (have hz0 : w.heap.size < w'.heap.size := (by omega))); (try (have hzg : g < w'.heap.size := (by omega))); have HB := Lib.hid hb; clear hb hs)
  go_still_tail 12, (by kernel_rfl)
  change wpList _ _ _ _ _ w'.drew
  generalize w'.drew = w2 at *
  go_wp2_with (refine wpList_store (b := g) (off := y) (cs := rU zs) (vs := [.int .u64 (clrI z x)]) HM2.out 0 rfl rfl rfl rfl rfl rfl h46.out rfl (Nat.ble_eq_true_of_le (by rw [rU_len]; simp only [List.length_cons, List.length_nil, List.length_set]; omega)) ?_; intro w3 hM3; have HM3 : Aside (Mem w0 w3 r ((g, splice (rU zs) y [.int .u64 (clrI z x)]) :: l)) := hM3; clear hM3)
  simp [bodyPost, results, Try.results64, go_sem]
  rw [← rU_set _ _ _ (by omega)]
  exact HM3.out
--## d
theorem Mem.tail2 {w0 W : World} {r l : Blocks} {x : Nat × List Value} (h : Mem w0 W r (x :: l)) : Mem w0 W r l :=
  ⟨h.below, h.old, fun y hy => h.new y (List.mem_cons_of_mem _ hy), (List.nodup_cons.1 h.apart).2⟩
--## d
set_option maxHeartbeats 4000000 in
theorem l06PutS_false (g x y : Nat) (z : Int) (zs : List Int) (w0 w : World) {r l : Blocks} (hM : Mem w0 w r ((g, rU zs) :: l)) (hl : zs.length = 64) (hx : x < 64) (hy : y < 64) (hz : zs[y]? = some z) : Calls Try.prog 57 #[.pointer (some ⟨g, 0, none⟩), mk x y, .bool false] w (fun e w' => e = .returned (.tuple #[]) ∧ Mem w0 w' r ((g, rU (zs.set y (clrS z x))) :: l)) := by
  have HO : ∀ w, Calls Try.prog 78 #[mk x y] w (Gives (isB true) w) := fun w => by
    have h := l06OnS x y w
    rw [show onF x y = true by simp [onF]; omega] at h
    exact h
  obtain ⟨q1, q2⟩ := Mem.cellIn hM (List.mem_cons_self ..) y _ (rU_get hz)
  have hgb : g < w.heap.size := (hM.new _ (List.mem_cons_self ..)).2.1
  have hx0 : (0 : Int) ≤ (x : Int) := Int.natCast_nonneg _
  have hx1 : (x : Int) ≤ 63 := by omega
  have hy0 : (0 : Int) ≤ (y : Int) := Int.natCast_nonneg _
  have hy1 : (y : Int) < 64 := by omega
  have h46 : Aside ((Try.prog.info? 22).map (·.size) = some 1) := (by kernel_rfl : (Try.prog.info? 22).map (·.size) = some 1)
  have HM : Aside (Mem w0 w r ((g, rU zs) :: l)) := hM
  clear hM
  go_enter Try.func57, Try.ntmps57
  go_wp2_with (go_at_call 78; refine (HO _).mono ?_; rintro e w' ⟨_, rfl, rfl, hb⟩; have HM2 : Aside (Mem w0 w'.drew r ((w.heap.size, [.int .i16 (x : Int), .int .i16 (y : Int)]) :: (g, rU zs) :: l)) := ((HM.out.alloc #[.int .i16 (x : Int), .int .i16 (y : Int)] 45).call hb).drew; obtain ⟨hc, hf⟩ := bcell hb; (try simp at hc hf); have hs := hb.size; (try simp at hs); (try (have hz0 : w.heap.size < w'.heap.size := (by omega))); (try (have hzg : g < w'.heap.size := (by omega))); have HB := Lib.hid hb; clear hb hs)
  go_still_tail 10, (by kernel_rfl)
  change wpList _ _ _ _ _ w'.drew
  generalize w'.drew = w2 at *
  go_wp2_with (refine wpList_store (b := g) (off := y) (cs := rU zs) (vs := [.int .u64 (setB z x)]) HM2.out 1 rfl rfl rfl rfl rfl rfl h46.out rfl (Nat.ble_eq_true_of_le (by rw [rU_len]; simp only [List.length_cons, List.length_nil, List.length_set]; omega)) ?_; intro w3 hM3; have HM3 : Aside (Mem w0 w3 r ((w.heap.size, [.int .i16 (x : Int), .int .i16 (y : Int)]) :: (g, splice (rU zs) y [.int .u64 (setB z x)]) :: l)) := hM3; clear hM3)
  have hM4 := HM3.out
  rw [rU_set _ _ _ (by omega)] at hM4
  have HM4 : Aside (Mem w0 w3 r ((w.heap.size, [.int .i16 (x : Int), .int .i16 (y : Int)]) :: (g, rU (zs.set y (setB z x))) :: l)) := hM4
  obtain ⟨q3, q4⟩ := Mem.cellIn hM4 (List.mem_cons_of_mem _ (List.mem_cons_self ..)) y _ (rU_get (z := setB z x) (by rw [List.getElem?_set_self (by omega)]))
  obtain ⟨q5, q6⟩ := Mem.cellIn hM4 (List.mem_cons_self ..) 1 (.int .i16 (y : Int)) rfl
  clear hM4 HM3
  go_still_tail 10, (by kernel_rfl)
  have HM5 : Aside (Mem w0 w3.drew r ((w.heap.size, [.int .i16 (x : Int), .int .i16 (y : Int)]) :: (g, rU (zs.set y (setB z x))) :: l)) := HM4.out.drew
  change wpList _ _ _ _ _ w3.drew
  generalize w3.drew = w4 at *
  go_wp2_with (refine wpList_store (b := g) (off := y) (cs := rU (zs.set y (setB z x))) (vs := [.int .u64 (clrS z x)]) HM5.out 1 rfl rfl rfl rfl rfl rfl h46.out rfl (Nat.ble_eq_true_of_le (by rw [rU_len]; simp only [List.length_cons, List.length_nil, List.length_set]; omega)) ?_; intro w3 hM3; have HM6 : Aside (Mem w0 w3 r ((w.heap.size, [.int .i16 (x : Int), .int .i16 (y : Int)]) :: (g, splice (rU (zs.set y (setB z x))) y [.int .u64 (clrS z x)]) :: l)) := hM3; clear hM3)
  simp [bodyPost, results, Try.results57, go_sem]
  have h6 := Mem.tail2 HM6.out
  rw [rU_set _ _ _ (by rw [List.length_set]; omega), List.set_set] at h6
  exact h6
--## d
theorem l06PutS_all (g : Nat) (x y : Int) (ink : Bool) (zs : List Int) (w0 w : World) {r l : Blocks} (hM : Mem w0 w r ((g, rU zs) :: l)) (hl : zs.length = 64) : Calls Try.prog 57 #[.pointer (some ⟨g, 0, none⟩), mk x y, .bool ink] w (fun e w' => e = .returned (.tuple #[]) ∧ Mem w0 w' r ((g, rU (putS zs ink x y)) :: l)) := by
  unfold putS
  cases ho : onF x y
  · exact (l06PutS_off g x y ink w ho).mono fun e w' ⟨h1, h2⟩ => ⟨h1, hM.call h2⟩
  · obtain ⟨a, b, rfl, rfl, ha, hb⟩ := onF_true ho
    obtain ⟨z, hz⟩ : ∃ z, zs[b]? = some z := ⟨zs[b]'(by omega), List.getElem?_eq_getElem _⟩
    have e : zs.getD b 0 = z := by simp [List.getD_eq_getElem?_getD, hz]
    simp only [if_pos, Int.toNat_natCast, e]
    cases ink
    · exact l06PutS_false g a b z zs w0 w hM hl ha hb hz
    · exact l06PutS_true g a b z zs w0 w hM hl ha hb hz
--## d
theorem putI_all (g : Nat) (x y : Int) (ink : Bool) (zs : List Int) (w0 w : World) {r l : Blocks} (hM : Mem w0 w r ((g, rU zs) :: l)) (hl : zs.length = 64) : Calls Try.prog 64 #[.pointer (some ⟨g, 0, none⟩), mk x y, .bool ink] w (fun e w' => e = .returned (.tuple #[]) ∧ Mem w0 w' r ((g, rU (putI zs ink x y)) :: l)) := by
  unfold putI
  cases ho : onF x y
  · exact (putI_off g x y ink w ho).mono fun e w' ⟨h1, h2⟩ => ⟨h1, hM.call h2⟩
  · obtain ⟨a, b, rfl, rfl, ha, hb⟩ := onF_true ho
    obtain ⟨z, hz⟩ : ∃ z, zs[b]? = some z := ⟨zs[b]'(by omega), List.getElem?_eq_getElem _⟩
    have e : zs.getD b 0 = z := by simp [List.getD_eq_getElem?_getD, hz]
    simp only [if_pos, Int.toNat_natCast, e]
    cases ink
    · exact putI_false g a b z zs w0 w hM hl ha hb hz
    · exact putI_true g a b z zs w0 w hM hl ha hb hz
--## d
end Go.Proofs.Ytbhbdpcefgledaa
