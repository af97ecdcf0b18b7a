/- Contracts: lamps read from their texts (the program's side). -/
import Derived.Test.YtljpggeogiabgaaDoorTxtE
import Derived.Test.YtljpggeogiabgaaDoorTxtM
import Derived.Lib.CutLaws
import Derived.Lib.LastIndexByte
namespace Go.Proofs.YtljpggeogiabgaaDoor
open Go.Lib
set_option linter.unusedSimpArgs false
set_option linter.unusedVariables false
/-- cut at the first blank -/
theorem cut_segs (l : List UInt8) : ((cut l [32]).2.2 = true ∧ segs l = (cut l [32]).1 :: segs (cut l [32]).2.1) ∨ ((cut l [32]).2.2 = false ∧ segs l = [(cut l [32]).1] ∧ (cut l [32]).2.1 = []) := by
  unfold cut
  rw [index_one]
  rcases segs_index l with ⟨h1, h2⟩ | ⟨i, hi, h1, h2⟩
  · rw [h1]; right; simp [h2]
  · rw [h1]; left
    rw [if_pos (Int.natCast_nonneg i)]
    simp [h2]
/-- no blank: one piece -/
theorem segs_none : ∀ {l : List UInt8}, (∀ c ∈ l, c ≠ 32) → segs l = [l]
  | [], _ => rfl
  | c :: l, h => by
    rw [segs, if_neg (h c (by simp)), segs_none (fun x hx => h x (by simp [hx]))]
theorem segs_snoc : ∀ (a b : List UInt8), (∀ c ∈ b, c ≠ 32) → segs (a ++ 32 :: b) = segs a ++ [b]
  | [], b, h => by simp [segs, segs_none h]
  | c :: a, b, h => by
    rw [List.cons_append, segs, segs]
    by_cases hc : c = 32
    · rw [if_pos hc, if_pos hc, segs_snoc a b h]; rfl
    · rw [if_neg hc, if_neg hc, segs_snoc a b h]
      cases hs : segs a with
      | nil => exact absurd hs (segs_ne a)
      | cons x t => rfl
theorem data_at (s : ByteArray) (j : Nat) (hj : j < s.size) : s.data[j]! = s.data.toList[j]'hj := by
  have : j < s.data.size := hj
  rw [getElem!_pos s.data j this]; rfl
theorem nat32 {b : UInt8} : ((b.toNat : Nat) : Int) = 32 ↔ b = 32 := by
  constructor
  · intro h
    have : b.toNat = 32 := by omega
    exact UInt8.toNat_inj.1 this
  · intro h; subst h; rfl
/-- cut at the last blank -/
theorem last_segs (s : ByteArray) : (lastIndexByte s 32 = -1 ∧ segsB s = [s]) ∨ ∃ i : Nat, i < s.size ∧ lastIndexByte s 32 = i ∧ segsB s = segsB (s.extract 0 i) ++ [s.extract (i + 1) s.size] := by
  rcases lastIndexByte_spec s 32 with ⟨h1, h2⟩ | ⟨i, hi, h1, h2, h3⟩
  · left
    refine ⟨h1, ?_⟩
    have hn : ∀ c ∈ s.data.toList, c ≠ 32 := by
      intro c hc e
      obtain ⟨j, hj, rfl⟩ := List.mem_iff_getElem.1 hc
      have := h2 j hj
      rw [data_at s j hj] at this
      exact this (nat32.2 e)
    unfold segsB
    rw [segs_none hn]
    rfl
  · right
    refine ⟨i, hi, h1, ?_⟩
    have hb : s.data.toList[i]'hi = 32 := by rw [data_at s i hi] at h2; exact nat32.1 h2
    have hn : ∀ c ∈ s.data.toList.drop (i + 1), c ≠ 32 := by
      intro c hc e
      obtain ⟨j, hj, rfl⟩ := List.mem_iff_getElem.1 hc
      rw [List.length_drop] at hj
      have hjs : i + 1 + j < s.data.toList.length := by omega
      have := h3 (i + 1 + j) (by omega) hjs
      rw [data_at s _ hjs] at this
      rw [List.getElem_drop] at e
      exact this (nat32.2 e)
    have hsplit : s.data.toList = s.data.toList.take i ++ 32 :: s.data.toList.drop (i + 1) := by
      conv => lhs; rw [← List.take_append_drop i s.data.toList]
      rw [List.drop_eq_getElem_cons hi, hb]
    have e0 : segs s.data.toList = segs (s.data.toList.take i) ++ [s.data.toList.drop (i + 1)] := by
      conv => lhs; rw [hsplit]
      exact segs_snoc _ _ hn
    have e1 : (s.extract 0 i).data.toList = s.data.toList.take i := extract_from_zero s i
    have e2 : (s.extract (i + 1) s.size).data.toList = s.data.toList.drop (i + 1) := by rw [extract_to_end]
    unfold segsB
    rw [e0, e1, List.map_append, List.map_cons, List.map_nil, ← ofData e2]
end Go.Proofs.YtljpggeogiabgaaDoor
namespace Go.Proofs.YtljpggeogiabgaaDoor
open Go.ChangeShapes Go.WideShapes Go.ChangeAt Go.RowKit Go.Flo Go.Mem
set_option linter.unusedSimpArgs false
set_option linter.unusedVariables false
/-- the first word, and what is behind the first blank -/
def cutA (s : ByteArray) : ByteArray := ⟨(Lib.cut s.data.toList [32]).1.toArray⟩
def cutR (s : ByteArray) : ByteArray := ⟨(Lib.cut s.data.toList [32]).2.1.toArray⟩
def cutF (s : ByteArray) : Bool := (Lib.cut s.data.toList [32]).2.2
theorem cut_B (s : ByteArray) : (cutF s = true ∧ segsB s = cutA s :: segsB (cutR s)) ∨ (cutF s = false ∧ segsB s = [cutA s] ∧ cutR s = ByteArray.empty) := by
  rcases cut_segs s.data.toList with ⟨h1, h2⟩ | ⟨h1, h2, h3⟩
  · exact .inl ⟨h1, by unfold segsB; rw [h2]; rfl⟩
  · exact .inr ⟨h1, by unfold segsB; rw [h2]; rfl, by unfold cutR; rw [h3]; rfl⟩
theorem cutR_size (s : ByteArray) : (cutR s).size ≤ s.size := by
  show (Lib.cut s.data.toList [32]).2.1.toArray.size ≤ s.data.toList.length
  unfold Lib.cut
  split
  · simp
  · simp
theorem segsB_empty : segsB ByteArray.empty = [ByteArray.empty] := rfl
theorem last_empty : Lib.lastIndexByte ByteArray.empty 32 = -1 := rfl
--## CutI 19 20
theorem CutI (s : ByteArray) (w : World) {m : Int} (hm : w.cell? ⟨1, 0, none⟩ = some (.int .i64 m)) (hs : s.size ≤ 1048576) :
    Calls Tryd.prog 19 #[.string s, .string ⟨#[32]⟩] w fun e w' => e = .returned (.tuple #[.string (cutA s), .string (cutR s), .bool (cutF s)]) ∧ Below w.heap.size w w' :=
  (Tryd.strings_Cut s ⟨#[32]⟩ m w (by omega) hm).mono fun e w' ⟨he, n, hw⟩ => ⟨he, by rw [hw]; exact below_drewN (Below.refl _ _) n⟩
theorem LastI (s : ByteArray) (w : World) (hs : s.size ≤ 1048576) :
    Calls Tryd.prog 20 #[.string s, .int .u8 32] w fun e w' => e = .returned (.int .i64 (Lib.lastIndexByte s 32)) ∧ w' = w :=
  Tryd.strings_LastIndexByte s 32 (by omega) w
--## ReadLampI 9 21
set_option maxRecDepth 20000 in
set_option maxHeartbeats 1000000 in
theorem ReadLampI0 (s : ByteArray) (w : World) {m : Int} (h5 : 1 < w.heap.size) (hm : w.cell? ⟨1, 0, none⟩ = some (.int .i64 m)) (hs : s.size ≤ 1048576) (hl : Lib.lastIndexByte (cutR s) 32 = -1) : Calls Tryd.prog 9 #[.string s] w (Gives (fun v => v = .tuple #[zeroL, .int .i64 5]) w) := by
  have HL : Aside (s.size ≤ 1048576 ∧ (cutR s).size ≤ 1048576 ∧ Lib.lastIndexByte (cutR s) 32 = -1) := ⟨hs, Nat.le_trans (cutR_size s) hs, hl⟩
  have HM : Aside (∀ o1, (w.alloc o1).cell? ⟨1, 0, none⟩ = some (.int .i64 m)) := fun o1 => ((below_alloc (Below.refl _ _)).cell (p := ⟨1, 0, none⟩) h5).trans hm
  clear hs hm hl
  go_enter Tryd.func9, Tryd.ntmps9
  go_wp2_with (first
    | (go_at_call 19; refine (CutI s _ (HM.out _) HL.out.1).mono ?_; rintro e w' ⟨rfl, hb⟩; obtain ⟨hc1, hf1⟩ := bcell hb; have hz1 : w.heap.size < w'.heap.size := (by have := hb.size; simp at this; omega); (try simp at hc1 hf1); have HB1 : Aside _ := hb; clear hb)
    | (go_at_call 20; refine (LastI (cutR s) _ HL.out.2.1).mono ?_; rintro e w2 ⟨rfl, hw⟩; subst hw; rw [HL.out.2.2]))
  all_goals simp [bodyPost, results, Tryd.results9, go_sem, *]
  all_goals refine ⟨_, rfl, rfl, ?_⟩
  all_goals repeat refine below_set ?_ (Nat.le_refl _)
  all_goals exact below_step HB1.out (below_alloc (Below.refl _ _))
set_option maxRecDepth 20000 in
set_option maxHeartbeats 1000000 in
theorem ReadLampI1 (s : ByteArray) (w : World) {m : Int} (h5 : 1 < w.heap.size) (hm : w.cell? ⟨1, 0, none⟩ = some (.int .i64 m)) (hs : s.size ≤ 1048576) (hL : ((cutA s).toList == [108, 97, 109, 112]) = false) (hS : ((cutA s).toList == [115, 117, 110]) = false) : Calls Tryd.prog 9 #[.string s] w (Gives (fun v => v = .tuple #[zeroL, .int .i64 5]) w) := by
  by_cases hl : Lib.lastIndexByte (cutR s) 32 = -1
  · exact ReadLampI0 s w h5 hm hs hl
  have hge : ¬ (Lib.lastIndexByte (cutR s) 32 < 0) := by
    rcases last_segs (cutR s) with ⟨h, _⟩ | ⟨i, _, h, _⟩
    · exact absurd h hl
    · rw [h]; omega
  have HL : Aside (s.size ≤ 1048576 ∧ (cutR s).size ≤ 1048576) := ⟨hs, Nat.le_trans (cutR_size s) hs⟩
  have HM : Aside (∀ o1, (w.alloc o1).cell? ⟨1, 0, none⟩ = some (.int .i64 m)) := fun o1 => ((below_alloc (Below.refl _ _)).cell (p := ⟨1, 0, none⟩) h5).trans hm
  clear hs hm hl
  go_enter Tryd.func9, Tryd.ntmps9
  go_wp2_with (first
    | (go_at_call 19; refine (CutI s _ (HM.out _) HL.out.1).mono ?_; rintro e w' ⟨rfl, hb⟩; obtain ⟨hc1, hf1⟩ := bcell hb; have hz1 : w.heap.size < w'.heap.size := (by have := hb.size; simp at this; omega); (try simp at hc1 hf1); have HB1 : Aside _ := hb; clear hb)
    | (go_at_call 20; refine (LastI (cutR s) _ HL.out.2).mono ?_; rintro e w2 ⟨rfl, hw⟩; subst hw))
  all_goals simp [bodyPost, results, Tryd.results9, go_sem, *]
  all_goals refine ⟨_, rfl, rfl, ?_⟩
  all_goals repeat refine below_set ?_ (Nat.le_refl _)
  all_goals exact below_step HB1.out (below_alloc (Below.refl _ _))
theorem CutI' (s : ByteArray) (w : World) {A R : ByteArray} {F : Bool} (hA : cutA s = A) (hR : cutR s = R) (hF : cutF s = F) {m : Int} (hm : w.cell? ⟨1, 0, none⟩ = some (.int .i64 m)) (hs : s.size ≤ 1048576) :
    Calls Tryd.prog 19 #[.string s, .string ⟨#[32]⟩] w fun e w' => e = .returned (.tuple #[.string A, .string R, .bool F]) ∧ Below w.heap.size w w' := by
  subst hA hR hF
  exact CutI s w hm hs
theorem wrapNat {i n : Nat} (h : i < n) (hn : n ≤ 1048576) : (wrap64 ((i : Int) + 1)).toNat = i + 1 := by unfold wrap64; omega
theorem wrapEq {i n : Nat} (h : i < n) (hn : n ≤ 1048576) : wrap64 ((i : Int) + 1) = (i : Int) + 1 := by unfold wrap64; omega
theorem isR_any {o : Option Nat} {v : Value} (h : isR o v) : ∃ (y : Nat) (k : Int), v = .tuple #[.float .f32 y, .int .i64 k] := by
  cases o with
  | none => exact ⟨0, 5, h⟩
  | some n => exact ⟨n, 0, h⟩
theorem cellB {w W : World} {v : Value} (h5 : 1 < w.heap.size) (hm : w.cell? ⟨1, 0, none⟩ = some v) (hB : Below w.heap.size w W) : W.cell? ⟨1, 0, none⟩ = some v := (hB.cell (p := ⟨1, 0, none⟩) h5).trans hm
theorem ltB {w W : World} (h5 : 1 < w.heap.size) (hB : Below w.heap.size w W) : 1 < W.heap.size := Nat.lt_of_lt_of_le h5 hB.size
set_option maxRecDepth 20000 in
set_option maxHeartbeats 4000000 in
theorem ReadLampI2a (s : ByteArray) (w : World) {m : Int} {A R : ByteArray} {F : Bool} (hA : cutA s = A ∧ cutR s = R ∧ cutF s = F ∧ R.size ≤ s.size) (h5 : 1 < w.heap.size) (hm : w.cell? ⟨1, 0, none⟩ = some (.int .i64 m)) (hs : s.size ≤ 1048576) (hL : (A.toList == [108, 97, 109, 112]) = true) (hS : (A.toList == [115, 117, 110]) = false) {i : Nat} (hi : Lib.lastIndexByte R 32 = (i : Int)) (hlt : i < R.size) (hp : ptR (segsB (R.extract 0 i)) = none) : Calls Tryd.prog 9 #[.string s] w (Gives (fun v => v = .tuple #[zeroL, .int .i64 5]) w) := by
  have HA : Aside (cutA s = A ∧ cutR s = R ∧ cutF s = F ∧ R.size ≤ s.size) := hA
  have HL : Aside (s.size ≤ 1048576 ∧ R.size ≤ 1048576 ∧ Lib.lastIndexByte R 32 = (i : Int) ∧ (R.extract 0 i).size ≤ 1048576 ∧ i < R.size) := ⟨hs, Nat.le_trans HA.out.2.2.2 hs, hi, by have := HA.out.2.2.2; rw [ByteArray.size_extract]; omega, hlt⟩
  have HM : Aside (1 < w.heap.size ∧ w.cell? ⟨1, 0, none⟩ = some (.int .i64 m)) := ⟨h5, hm⟩
  have f0 : (0 : Int) ≤ (i : Int) := Int.natCast_nonneg _
  have f1 : (i : Int) ≤ (R.size : Int) := by omega
  have f2 : (i : Int) + 1 ≤ (R.size : Int) := by omega
  have f3 : (0 : Int) ≤ wrap64 ((i : Int) + 1) := by rw [wrapEq HL.out.2.2.2.2 HL.out.2.1]; omega
  have f4 : wrap64 ((i : Int) + 1) ≤ (R.size : Int) := by rw [wrapEq HL.out.2.2.2.2 HL.out.2.1]; omega
  have HP : Aside (ptR (segsB (R.extract 0 i)) = none ∧ True) := ⟨hp, trivial⟩
  clear hp
  have hz9 : True := trivial
  clear hs hm hi hlt hA
  go_enter Tryd.func9, Tryd.ntmps9
  go_wp2_with (first
    | (go_at_call 19; refine (CutI' s _ HA.out.1 HA.out.2.1 HA.out.2.2.1 (cellB HM.out.1 HM.out.2 (below_alloc (Below.refl _ _))) HL.out.1).mono ?_; rintro e w' ⟨rfl, hb⟩; obtain ⟨hc1, hf1⟩ := bcell hb; have hz1 : w.heap.size < w'.heap.size := (by have := hb.size; simp at this; omega); (try simp at hc1 hf1); have HB1 : Aside _ := below_step hb (below_alloc (Below.refl _ _)); clear hb)
    | (go_at_call 20; refine (LastI R _ HL.out.2.1).mono ?_; rintro e wl ⟨rfl, hw⟩; subst hw; rw [HL.out.2.2.1])
    | (go_at_call 21; refine (ReadPointI (R.extract 0 i) _ (ltB HM.out.1 HB1.out) (cellB HM.out.1 HM.out.2 HB1.out) HL.out.2.2.2.1).mono ?_; rintro e w2 ⟨v2, rfl, hv, hb⟩; rw [HP.out.1] at hv; (simp only [isRP] at hv; subst hv); obtain ⟨hc2, hf2⟩ := bcell hb; have hz2 : w.heap.size < w2.heap.size := Nat.lt_of_lt_of_le hz1 hb.size; have HB2 : Aside _ := below_step hb HB1.out; clear hb)
    | (go_at_call 15; refine (ReadNumberI _ _).mono ?_; rintro e w3 ⟨v3, rfl, hv, hb⟩; rw [wrapNat HL.out.2.2.2.2 HL.out.2.1] at hv; obtain ⟨y, k, rfl⟩ := isR_any hv; clear hv; obtain ⟨hc3, hf3⟩ := bcell hb; have hz3 : w.heap.size < w3.heap.size := (by have := hb.size; simp at this; omega); have hz4 : w2.heap.size < w3.heap.size := (by have := hb.size; simp at this; omega); (try simp at hc3 hf3); have HB3 : Aside _ := below_step hb (below_alloc HB2.out); clear hb)
    | fail)
  all_goals have hz7 : w.heap.size < w3.heap.size + 1 := Nat.lt_succ_of_lt hz3
  all_goals have hz8 : ¬ w.heap.size = w3.heap.size := Nat.ne_of_lt hz3
  all_goals have hz11 : w.heap.size < w2.heap.size + 1 := Nat.lt_succ_of_lt hz2
  all_goals have hz12 : ¬ w.heap.size = w2.heap.size := Nat.ne_of_lt hz2
  all_goals simp [bodyPost, results, Tryd.results9, go_sem, *]
  all_goals refine ⟨_, rfl, rfl, ?_⟩
  all_goals repeat' first | (with_reducible exact HB3.out) | (refine below_set ?_ (Nat.le_refl _)) | (refine below_alloc ?_)
set_option maxRecDepth 20000 in
set_option maxHeartbeats 4000000 in
theorem ReadLampI2b (s : ByteArray) (w : World) {m : Int} {A R : ByteArray} {F : Bool} (hA : cutA s = A ∧ cutR s = R ∧ cutF s = F ∧ R.size ≤ s.size) (h5 : 1 < w.heap.size) (hm : w.cell? ⟨1, 0, none⟩ = some (.int .i64 m)) (hs : s.size ≤ 1048576) (hL : (A.toList == [108, 97, 109, 112]) = true) (hS : (A.toList == [115, 117, 110]) = false) {i : Nat} (hi : Lib.lastIndexByte R 32 = (i : Int)) (hlt : i < R.size) {x0 x1 x2 : Nat} (hp : ptR (segsB (R.extract 0 i)) = some (x0, x1, x2)) (hr : resV (R.extract (i + 1) R.size) = none) : Calls Tryd.prog 9 #[.string s] w (Gives (fun v => v = .tuple #[zeroL, .int .i64 5]) w) := by
  have HA : Aside (cutA s = A ∧ cutR s = R ∧ cutF s = F ∧ R.size ≤ s.size) := hA
  have HL : Aside (s.size ≤ 1048576 ∧ R.size ≤ 1048576 ∧ Lib.lastIndexByte R 32 = (i : Int) ∧ (R.extract 0 i).size ≤ 1048576 ∧ i < R.size) := ⟨hs, Nat.le_trans HA.out.2.2.2 hs, hi, by have := HA.out.2.2.2; rw [ByteArray.size_extract]; omega, hlt⟩
  have HM : Aside (1 < w.heap.size ∧ w.cell? ⟨1, 0, none⟩ = some (.int .i64 m)) := ⟨h5, hm⟩
  have f0 : (0 : Int) ≤ (i : Int) := Int.natCast_nonneg _
  have f1 : (i : Int) ≤ (R.size : Int) := by omega
  have f2 : (i : Int) + 1 ≤ (R.size : Int) := by omega
  have f3 : (0 : Int) ≤ wrap64 ((i : Int) + 1) := by rw [wrapEq HL.out.2.2.2.2 HL.out.2.1]; omega
  have f4 : wrap64 ((i : Int) + 1) ≤ (R.size : Int) := by rw [wrapEq HL.out.2.2.2.2 HL.out.2.1]; omega
  have HP : Aside (ptR (segsB (R.extract 0 i)) = some (x0, x1, x2) ∧ resV (R.extract (i + 1) R.size) = none) := ⟨hp, hr⟩
  clear hp hr
  have hz9 : True := trivial
  clear hs hm hi hlt hA
  go_enter Tryd.func9, Tryd.ntmps9
  go_wp2_with (first
    | (go_at_call 19; refine (CutI' s _ HA.out.1 HA.out.2.1 HA.out.2.2.1 (cellB HM.out.1 HM.out.2 (below_alloc (Below.refl _ _))) HL.out.1).mono ?_; rintro e w' ⟨rfl, hb⟩; obtain ⟨hc1, hf1⟩ := bcell hb; have hz1 : w.heap.size < w'.heap.size := (by have := hb.size; simp at this; omega); (try simp at hc1 hf1); have HB1 : Aside _ := below_step hb (below_alloc (Below.refl _ _)); clear hb)
    | (go_at_call 20; refine (LastI R _ HL.out.2.1).mono ?_; rintro e wl ⟨rfl, hw⟩; subst hw; rw [HL.out.2.2.1])
    | (go_at_call 21; refine (ReadPointI (R.extract 0 i) _ (ltB HM.out.1 HB1.out) (cellB HM.out.1 HM.out.2 HB1.out) HL.out.2.2.2.1).mono ?_; rintro e w2 ⟨v2, rfl, hv, hb⟩; rw [HP.out.1] at hv; (simp only [isRP] at hv; subst hv); obtain ⟨hc2, hf2⟩ := bcell hb; have hz2 : w.heap.size < w2.heap.size := Nat.lt_of_lt_of_le hz1 hb.size; have HB2 : Aside _ := below_step hb HB1.out; clear hb)
    | (go_at_call 15; refine (ReadNumberI _ _).mono ?_; rintro e w3 ⟨v3, rfl, hv, hb⟩; rw [wrapNat HL.out.2.2.2.2 HL.out.2.1] at hv; rw [HP.out.2] at hv; (simp only [isR] at hv; subst hv); obtain ⟨hc3, hf3⟩ := bcell hb; have hz3 : w.heap.size < w3.heap.size := (by have := hb.size; simp at this; omega); have hz4 : w2.heap.size < w3.heap.size := (by have := hb.size; simp at this; omega); (try simp at hc3 hf3); have HB3 : Aside _ := below_step hb (below_alloc HB2.out); clear hb)
    | fail)
  all_goals have hz7 : w.heap.size < w3.heap.size + 1 := Nat.lt_succ_of_lt hz3
  all_goals have hz8 : ¬ w.heap.size = w3.heap.size := Nat.ne_of_lt hz3
  all_goals have hz11 : w.heap.size < w2.heap.size + 1 := Nat.lt_succ_of_lt hz2
  all_goals have hz12 : ¬ w.heap.size = w2.heap.size := Nat.ne_of_lt hz2
  all_goals simp [bodyPost, results, Tryd.results9, go_sem, *]
  all_goals refine ⟨_, rfl, rfl, ?_⟩
  all_goals repeat' first | (with_reducible exact HB3.out) | (refine below_set ?_ (Nat.le_refl _)) | (refine below_alloc ?_)
set_option maxRecDepth 20000 in
set_option maxHeartbeats 4000000 in
theorem ReadLampI2c (s : ByteArray) (w : World) {m : Int} {A R : ByteArray} {F : Bool} (hA : cutA s = A ∧ cutR s = R ∧ cutF s = F ∧ R.size ≤ s.size) (h5 : 1 < w.heap.size) (hm : w.cell? ⟨1, 0, none⟩ = some (.int .i64 m)) (hs : s.size ≤ 1048576) (hL : (A.toList == [108, 97, 109, 112]) = true) (hS : (A.toList == [115, 117, 110]) = false) {i : Nat} (hi : Lib.lastIndexByte R 32 = (i : Int)) (hlt : i < R.size) {x0 x1 x2 x4 : Nat} (hp : ptR (segsB (R.extract 0 i)) = some (x0, x1, x2)) (hr : resV (R.extract (i + 1) R.size) = some x4) (b : Bool) (hok : ∀ W, Calls Tryd.prog 22 #[lamV x0 x1 x2 x4 false] W (Gives (isB b) W)) : Calls Tryd.prog 9 #[.string s] w (Gives (fun v => v = if b then .tuple #[lamV x0 x1 x2 x4 false, .int .i64 0] else .tuple #[zeroL, .int .i64 5]) w) := by
  have HA : Aside (cutA s = A ∧ cutR s = R ∧ cutF s = F ∧ R.size ≤ s.size) := hA
  have HL : Aside (s.size ≤ 1048576 ∧ R.size ≤ 1048576 ∧ Lib.lastIndexByte R 32 = (i : Int) ∧ (R.extract 0 i).size ≤ 1048576 ∧ i < R.size) := ⟨hs, Nat.le_trans HA.out.2.2.2 hs, hi, by have := HA.out.2.2.2; rw [ByteArray.size_extract]; omega, hlt⟩
  have HM : Aside (1 < w.heap.size ∧ w.cell? ⟨1, 0, none⟩ = some (.int .i64 m)) := ⟨h5, hm⟩
  have f0 : (0 : Int) ≤ (i : Int) := Int.natCast_nonneg _
  have f1 : (i : Int) ≤ (R.size : Int) := by omega
  have f2 : (i : Int) + 1 ≤ (R.size : Int) := by omega
  have f3 : (0 : Int) ≤ wrap64 ((i : Int) + 1) := by rw [wrapEq HL.out.2.2.2.2 HL.out.2.1]; omega
  have f4 : wrap64 ((i : Int) + 1) ≤ (R.size : Int) := by rw [wrapEq HL.out.2.2.2.2 HL.out.2.1]; omega
  have HP : Aside (ptR (segsB (R.extract 0 i)) = some (x0, x1, x2) ∧ resV (R.extract (i + 1) R.size) = some x4 ∧ ∀ W, Calls Tryd.prog 22 #[lamV x0 x1 x2 x4 false] W (Gives (isB b) W)) := ⟨hp, hr, hok⟩
  clear hp hr hok
  cases b
  all_goals
    clear hs hm hi hlt hA
    go_enter Tryd.func9, Tryd.ntmps9
    go_wp2_with (first
      | (go_at_call 19; refine (CutI' s _ HA.out.1 HA.out.2.1 HA.out.2.2.1 (cellB HM.out.1 HM.out.2 (below_alloc (Below.refl _ _))) HL.out.1).mono ?_; rintro e w' ⟨rfl, hb⟩; obtain ⟨hc1, hf1⟩ := bcell hb; have hz1 : w.heap.size < w'.heap.size := (by have := hb.size; simp at this; omega); (try simp at hc1 hf1); have HB1 : Aside _ := below_step hb (below_alloc (Below.refl _ _)); clear hb)
      | (go_at_call 20; refine (LastI R _ HL.out.2.1).mono ?_; rintro e wl ⟨rfl, hw⟩; subst hw; rw [HL.out.2.2.1])
      | (go_at_call 21; refine (ReadPointI (R.extract 0 i) _ (ltB HM.out.1 HB1.out) (cellB HM.out.1 HM.out.2 HB1.out) HL.out.2.2.2.1).mono ?_; rintro e w2 ⟨v2, rfl, hv, hb⟩; rw [HP.out.1] at hv; (simp only [isRP] at hv; subst hv); obtain ⟨hc2, hf2⟩ := bcell hb; have hz2 : w.heap.size < w2.heap.size := Nat.lt_of_lt_of_le hz1 hb.size; have HB2 : Aside _ := below_step hb HB1.out; clear hb)
      | (go_at_call 15; refine (ReadNumberI _ _).mono ?_; rintro e w3 ⟨v3, rfl, hv, hb⟩; rw [wrapNat HL.out.2.2.2.2 HL.out.2.1] at hv; rw [HP.out.2.1] at hv; (simp only [isR] at hv; subst hv); obtain ⟨hc3, hf3⟩ := bcell hb; have hz3 : w.heap.size < w3.heap.size := (by have := hb.size; simp at this; omega); have hz4 : w2.heap.size < w3.heap.size := (by have := hb.size; simp at this; omega); (try simp at hc3 hf3); have HB3 : Aside _ := below_step hb (below_alloc HB2.out); clear hb)
      | (go_at_call 22; refine (HP.out.2.2 _).mono ?_; rintro e w4 ⟨_, rfl, eb, hb⟩; (simp only [isB] at eb; subst eb); obtain ⟨hc4, hf4⟩ := bcell hb; (try simp at hc4 hf4); have hz5 : w.heap.size < w4.heap.size := (by have := hb.size; simp at this; omega); have hz6 : w3.heap.size < w4.heap.size := (by have := hb.size; simp at this; omega); have HB4 : Aside _ := below_step hb (below_alloc HB3.out); clear hb))
    all_goals have hz7 : w.heap.size < w3.heap.size + 1 := Nat.lt_succ_of_lt hz3
    all_goals have hz8 : ¬ w.heap.size = w3.heap.size := Nat.ne_of_lt hz3
  all_goals have hz11 : w.heap.size < w2.heap.size + 1 := Nat.lt_succ_of_lt hz2
  all_goals have hz12 : ¬ w.heap.size = w2.heap.size := Nat.ne_of_lt hz2
  all_goals simp [bodyPost, results, Tryd.results9, go_sem, *]
  all_goals refine ⟨_, rfl, rfl, ?_⟩
  all_goals repeat' first | (with_reducible exact HB4.out) | (refine below_set ?_ (Nat.le_refl _)) | (refine below_alloc ?_)
set_option maxRecDepth 20000 in
set_option maxHeartbeats 4000000 in
theorem ReadLampI3a (s : ByteArray) (w : World) {m : Int} {A R : ByteArray} {F : Bool} (hA : cutA s = A ∧ cutR s = R ∧ cutF s = F ∧ R.size ≤ s.size) (h5 : 1 < w.heap.size) (hm : w.cell? ⟨1, 0, none⟩ = some (.int .i64 m)) (hs : s.size ≤ 1048576) (hL : (A.toList == [108, 97, 109, 112]) = false) (hS : (A.toList == [115, 117, 110]) = true) {i : Nat} (hi : Lib.lastIndexByte R 32 = (i : Int)) (hlt : i < R.size) (hp : ptR (segsB (R.extract 0 i)) = none) : Calls Tryd.prog 9 #[.string s] w (Gives (fun v => v = .tuple #[zeroL, .int .i64 5]) w) := by
  have HA : Aside (cutA s = A ∧ cutR s = R ∧ cutF s = F ∧ R.size ≤ s.size) := hA
  have HL : Aside (s.size ≤ 1048576 ∧ R.size ≤ 1048576 ∧ Lib.lastIndexByte R 32 = (i : Int) ∧ (R.extract 0 i).size ≤ 1048576 ∧ i < R.size) := ⟨hs, Nat.le_trans HA.out.2.2.2 hs, hi, by have := HA.out.2.2.2; rw [ByteArray.size_extract]; omega, hlt⟩
  have HM : Aside (1 < w.heap.size ∧ w.cell? ⟨1, 0, none⟩ = some (.int .i64 m)) := ⟨h5, hm⟩
  have f0 : (0 : Int) ≤ (i : Int) := Int.natCast_nonneg _
  have f1 : (i : Int) ≤ (R.size : Int) := by omega
  have f2 : (i : Int) + 1 ≤ (R.size : Int) := by omega
  have f3 : (0 : Int) ≤ wrap64 ((i : Int) + 1) := by rw [wrapEq HL.out.2.2.2.2 HL.out.2.1]; omega
  have f4 : wrap64 ((i : Int) + 1) ≤ (R.size : Int) := by rw [wrapEq HL.out.2.2.2.2 HL.out.2.1]; omega
  have HP : Aside (ptR (segsB (R.extract 0 i)) = none ∧ True) := ⟨hp, trivial⟩
  clear hp
  have hz9 : True := trivial
  clear hs hm hi hlt hA
  go_enter Tryd.func9, Tryd.ntmps9
  go_wp2_with (first
    | (go_at_call 19; refine (CutI' s _ HA.out.1 HA.out.2.1 HA.out.2.2.1 (cellB HM.out.1 HM.out.2 (below_alloc (Below.refl _ _))) HL.out.1).mono ?_; rintro e w' ⟨rfl, hb⟩; obtain ⟨hc1, hf1⟩ := bcell hb; have hz1 : w.heap.size < w'.heap.size := (by have := hb.size; simp at this; omega); (try simp at hc1 hf1); have HB1 : Aside _ := below_step hb (below_alloc (Below.refl _ _)); clear hb)
    | (go_at_call 20; refine (LastI R _ HL.out.2.1).mono ?_; rintro e wl ⟨rfl, hw⟩; subst hw; rw [HL.out.2.2.1])
    | (go_at_call 21; refine (ReadPointI (R.extract 0 i) _ (ltB HM.out.1 HB1.out) (cellB HM.out.1 HM.out.2 HB1.out) HL.out.2.2.2.1).mono ?_; rintro e w2 ⟨v2, rfl, hv, hb⟩; rw [HP.out.1] at hv; (simp only [isRP] at hv; subst hv); obtain ⟨hc2, hf2⟩ := bcell hb; have hz2 : w.heap.size < w2.heap.size := Nat.lt_of_lt_of_le hz1 hb.size; have HB2 : Aside _ := below_step hb HB1.out; clear hb)
    | (go_at_call 15; refine (ReadNumberI _ _).mono ?_; rintro e w3 ⟨v3, rfl, hv, hb⟩; rw [wrapNat HL.out.2.2.2.2 HL.out.2.1] at hv; obtain ⟨y, k, rfl⟩ := isR_any hv; clear hv; obtain ⟨hc3, hf3⟩ := bcell hb; have hz3 : w.heap.size < w3.heap.size := (by have := hb.size; simp at this; omega); have hz4 : w2.heap.size < w3.heap.size := (by have := hb.size; simp at this; omega); (try simp at hc3 hf3); have HB3 : Aside _ := below_step hb (below_alloc HB2.out); clear hb)
    | fail)
  all_goals have hz7 : w.heap.size < w3.heap.size + 1 := Nat.lt_succ_of_lt hz3
  all_goals have hz8 : ¬ w.heap.size = w3.heap.size := Nat.ne_of_lt hz3
  all_goals have hz11 : w.heap.size < w2.heap.size + 1 := Nat.lt_succ_of_lt hz2
  all_goals have hz12 : ¬ w.heap.size = w2.heap.size := Nat.ne_of_lt hz2
  all_goals simp [bodyPost, results, Tryd.results9, go_sem, *]
  all_goals refine ⟨_, rfl, rfl, ?_⟩
  all_goals repeat' first | (with_reducible exact HB3.out) | (refine below_set ?_ (Nat.le_refl _)) | (refine below_alloc ?_)
set_option maxRecDepth 20000 in
set_option maxHeartbeats 4000000 in
theorem ReadLampI3b (s : ByteArray) (w : World) {m : Int} {A R : ByteArray} {F : Bool} (hA : cutA s = A ∧ cutR s = R ∧ cutF s = F ∧ R.size ≤ s.size) (h5 : 1 < w.heap.size) (hm : w.cell? ⟨1, 0, none⟩ = some (.int .i64 m)) (hs : s.size ≤ 1048576) (hL : (A.toList == [108, 97, 109, 112]) = false) (hS : (A.toList == [115, 117, 110]) = true) {i : Nat} (hi : Lib.lastIndexByte R 32 = (i : Int)) (hlt : i < R.size) {x0 x1 x2 : Nat} (hp : ptR (segsB (R.extract 0 i)) = some (x0, x1, x2)) (hr : resV (R.extract (i + 1) R.size) = none) : Calls Tryd.prog 9 #[.string s] w (Gives (fun v => v = .tuple #[zeroL, .int .i64 5]) w) := by
  have HA : Aside (cutA s = A ∧ cutR s = R ∧ cutF s = F ∧ R.size ≤ s.size) := hA
  have HL : Aside (s.size ≤ 1048576 ∧ R.size ≤ 1048576 ∧ Lib.lastIndexByte R 32 = (i : Int) ∧ (R.extract 0 i).size ≤ 1048576 ∧ i < R.size) := ⟨hs, Nat.le_trans HA.out.2.2.2 hs, hi, by have := HA.out.2.2.2; rw [ByteArray.size_extract]; omega, hlt⟩
  have HM : Aside (1 < w.heap.size ∧ w.cell? ⟨1, 0, none⟩ = some (.int .i64 m)) := ⟨h5, hm⟩
  have f0 : (0 : Int) ≤ (i : Int) := Int.natCast_nonneg _
  have f1 : (i : Int) ≤ (R.size : Int) := by omega
  have f2 : (i : Int) + 1 ≤ (R.size : Int) := by omega
  have f3 : (0 : Int) ≤ wrap64 ((i : Int) + 1) := by rw [wrapEq HL.out.2.2.2.2 HL.out.2.1]; omega
  have f4 : wrap64 ((i : Int) + 1) ≤ (R.size : Int) := by rw [wrapEq HL.out.2.2.2.2 HL.out.2.1]; omega
  have HP : Aside (ptR (segsB (R.extract 0 i)) = some (x0, x1, x2) ∧ resV (R.extract (i + 1) R.size) = none) := ⟨hp, hr⟩
  clear hp hr
  have hz9 : True := trivial
  clear hs hm hi hlt hA
  go_enter Tryd.func9, Tryd.ntmps9
  go_wp2_with (first
    | (go_at_call 19; refine (CutI' s _ HA.out.1 HA.out.2.1 HA.out.2.2.1 (cellB HM.out.1 HM.out.2 (below_alloc (Below.refl _ _))) HL.out.1).mono ?_; rintro e w' ⟨rfl, hb⟩; obtain ⟨hc1, hf1⟩ := bcell hb; have hz1 : w.heap.size < w'.heap.size := (by have := hb.size; simp at this; omega); (try simp at hc1 hf1); have HB1 : Aside _ := below_step hb (below_alloc (Below.refl _ _)); clear hb)
    | (go_at_call 20; refine (LastI R _ HL.out.2.1).mono ?_; rintro e wl ⟨rfl, hw⟩; subst hw; rw [HL.out.2.2.1])
    | (go_at_call 21; refine (ReadPointI (R.extract 0 i) _ (ltB HM.out.1 HB1.out) (cellB HM.out.1 HM.out.2 HB1.out) HL.out.2.2.2.1).mono ?_; rintro e w2 ⟨v2, rfl, hv, hb⟩; rw [HP.out.1] at hv; (simp only [isRP] at hv; subst hv); obtain ⟨hc2, hf2⟩ := bcell hb; have hz2 : w.heap.size < w2.heap.size := Nat.lt_of_lt_of_le hz1 hb.size; have HB2 : Aside _ := below_step hb HB1.out; clear hb)
    | (go_at_call 15; refine (ReadNumberI _ _).mono ?_; rintro e w3 ⟨v3, rfl, hv, hb⟩; rw [wrapNat HL.out.2.2.2.2 HL.out.2.1] at hv; rw [HP.out.2] at hv; (simp only [isR] at hv; subst hv); obtain ⟨hc3, hf3⟩ := bcell hb; have hz3 : w.heap.size < w3.heap.size := (by have := hb.size; simp at this; omega); have hz4 : w2.heap.size < w3.heap.size := (by have := hb.size; simp at this; omega); (try simp at hc3 hf3); have HB3 : Aside _ := below_step hb (below_alloc HB2.out); clear hb)
    | fail)
  all_goals have hz7 : w.heap.size < w3.heap.size + 1 := Nat.lt_succ_of_lt hz3
  all_goals have hz8 : ¬ w.heap.size = w3.heap.size := Nat.ne_of_lt hz3
  all_goals have hz11 : w.heap.size < w2.heap.size + 1 := Nat.lt_succ_of_lt hz2
  all_goals have hz12 : ¬ w.heap.size = w2.heap.size := Nat.ne_of_lt hz2
  all_goals simp [bodyPost, results, Tryd.results9, go_sem, *]
  all_goals refine ⟨_, rfl, rfl, ?_⟩
  all_goals repeat' first | (with_reducible exact HB3.out) | (refine below_set ?_ (Nat.le_refl _)) | (refine below_alloc ?_)
set_option maxRecDepth 20000 in
set_option maxHeartbeats 4000000 in
theorem ReadLampI3c (s : ByteArray) (w : World) {m : Int} {A R : ByteArray} {F : Bool} (hA : cutA s = A ∧ cutR s = R ∧ cutF s = F ∧ R.size ≤ s.size) (h5 : 1 < w.heap.size) (hm : w.cell? ⟨1, 0, none⟩ = some (.int .i64 m)) (hs : s.size ≤ 1048576) (hL : (A.toList == [108, 97, 109, 112]) = false) (hS : (A.toList == [115, 117, 110]) = true) {i : Nat} (hi : Lib.lastIndexByte R 32 = (i : Int)) (hlt : i < R.size) {x0 x1 x2 x4 : Nat} (hp : ptR (segsB (R.extract 0 i)) = some (x0, x1, x2)) (hr : resV (R.extract (i + 1) R.size) = some x4) (b : Bool) (hok : ∀ W, Calls Tryd.prog 22 #[lamV x0 x1 x2 x4 true] W (Gives (isB b) W)) : Calls Tryd.prog 9 #[.string s] w (Gives (fun v => v = if b then .tuple #[lamV x0 x1 x2 x4 true, .int .i64 0] else .tuple #[zeroL, .int .i64 5]) w) := by
  have HA : Aside (cutA s = A ∧ cutR s = R ∧ cutF s = F ∧ R.size ≤ s.size) := hA
  have HL : Aside (s.size ≤ 1048576 ∧ R.size ≤ 1048576 ∧ Lib.lastIndexByte R 32 = (i : Int) ∧ (R.extract 0 i).size ≤ 1048576 ∧ i < R.size) := ⟨hs, Nat.le_trans HA.out.2.2.2 hs, hi, by have := HA.out.2.2.2; rw [ByteArray.size_extract]; omega, hlt⟩
  have HM : Aside (1 < w.heap.size ∧ w.cell? ⟨1, 0, none⟩ = some (.int .i64 m)) := ⟨h5, hm⟩
  have f0 : (0 : Int) ≤ (i : Int) := Int.natCast_nonneg _
  have f1 : (i : Int) ≤ (R.size : Int) := by omega
  have f2 : (i : Int) + 1 ≤ (R.size : Int) := by omega
  have f3 : (0 : Int) ≤ wrap64 ((i : Int) + 1) := by rw [wrapEq HL.out.2.2.2.2 HL.out.2.1]; omega
  have f4 : wrap64 ((i : Int) + 1) ≤ (R.size : Int) := by rw [wrapEq HL.out.2.2.2.2 HL.out.2.1]; omega
  have HP : Aside (ptR (segsB (R.extract 0 i)) = some (x0, x1, x2) ∧ resV (R.extract (i + 1) R.size) = some x4 ∧ ∀ W, Calls Tryd.prog 22 #[lamV x0 x1 x2 x4 true] W (Gives (isB b) W)) := ⟨hp, hr, hok⟩
  clear hp hr hok
  cases b
  all_goals
    clear hs hm hi hlt hA
    go_enter Tryd.func9, Tryd.ntmps9
    go_wp2_with (first
      | (go_at_call 19; refine (CutI' s _ HA.out.1 HA.out.2.1 HA.out.2.2.1 (cellB HM.out.1 HM.out.2 (below_alloc (Below.refl _ _))) HL.out.1).mono ?_; rintro e w' ⟨rfl, hb⟩; obtain ⟨hc1, hf1⟩ := bcell hb; have hz1 : w.heap.size < w'.heap.size := (by have := hb.size; simp at this; omega); (try simp at hc1 hf1); have HB1 : Aside _ := below_step hb (below_alloc (Below.refl _ _)); clear hb)
      | (go_at_call 20; refine (LastI R _ HL.out.2.1).mono ?_; rintro e wl ⟨rfl, hw⟩; subst hw; rw [HL.out.2.2.1])
      | (go_at_call 21; refine (ReadPointI (R.extract 0 i) _ (ltB HM.out.1 HB1.out) (cellB HM.out.1 HM.out.2 HB1.out) HL.out.2.2.2.1).mono ?_; rintro e w2 ⟨v2, rfl, hv, hb⟩; rw [HP.out.1] at hv; (simp only [isRP] at hv; subst hv); obtain ⟨hc2, hf2⟩ := bcell hb; have hz2 : w.heap.size < w2.heap.size := Nat.lt_of_lt_of_le hz1 hb.size; have HB2 : Aside _ := below_step hb HB1.out; clear hb)
      | (go_at_call 15; refine (ReadNumberI _ _).mono ?_; rintro e w3 ⟨v3, rfl, hv, hb⟩; rw [wrapNat HL.out.2.2.2.2 HL.out.2.1] at hv; rw [HP.out.2.1] at hv; (simp only [isR] at hv; subst hv); obtain ⟨hc3, hf3⟩ := bcell hb; have hz3 : w.heap.size < w3.heap.size := (by have := hb.size; simp at this; omega); have hz4 : w2.heap.size < w3.heap.size := (by have := hb.size; simp at this; omega); (try simp at hc3 hf3); have HB3 : Aside _ := below_step hb (below_alloc HB2.out); clear hb)
      | (go_at_call 22; refine (HP.out.2.2 _).mono ?_; rintro e w4 ⟨_, rfl, eb, hb⟩; (simp only [isB] at eb; subst eb); obtain ⟨hc4, hf4⟩ := bcell hb; (try simp at hc4 hf4); have hz5 : w.heap.size < w4.heap.size := (by have := hb.size; simp at this; omega); have hz6 : w3.heap.size < w4.heap.size := (by have := hb.size; simp at this; omega); have HB4 : Aside _ := below_step hb (below_alloc HB3.out); clear hb))
    all_goals have hz7 : w.heap.size < w3.heap.size + 1 := Nat.lt_succ_of_lt hz3
    all_goals have hz8 : ¬ w.heap.size = w3.heap.size := Nat.ne_of_lt hz3
  all_goals have hz11 : w.heap.size < w2.heap.size + 1 := Nat.lt_succ_of_lt hz2
  all_goals have hz12 : ¬ w.heap.size = w2.heap.size := Nat.ne_of_lt hz2
  all_goals simp [bodyPost, results, Tryd.results9, go_sem, *]
  all_goals refine ⟨_, rfl, rfl, ?_⟩
  all_goals repeat' first | (with_reducible exact HB4.out) | (refine below_set ?_ (Nat.le_refl _)) | (refine below_alloc ?_)
end Go.Proofs.YtljpggeogiabgaaDoor
