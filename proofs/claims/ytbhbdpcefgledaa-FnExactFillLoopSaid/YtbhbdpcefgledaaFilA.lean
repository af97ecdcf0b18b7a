/- Crossings of sides and rows; the filling of a loop. -/
import Derived.Test.YtbhbdpcefgledaaShtG
import Derived.Test.YtbhbdpcefgledaaMrkC
import Derived.Test.YtbhbdpcefgledaaFlw
namespace Go.Proofs.Ytbhbdpcefgledaa
--## d
open Go.ChangeShapes Go.WideShapes Go.ChangeAt Go.RowKit Go.Flo Go.Mem
set_option linter.unusedSimpArgs false
set_option linter.unusedVariables false
set_option maxRecDepth 20000
--## d
def crsX (s : S5) (y : Int) : Bool := decide (s.2.1 ≤ y) != decide (s.2.2.2.1 ≤ y)
--## d
def crsD (s : S5) (x y : Int) : Int := (s.2.2.1 - s.1) * (y - s.2.1) - (x - s.1) * (s.2.2.2.1 - s.2.1)
--## d
def crs (s : S5) (x y : Int) : Bool := crsX s y && (if 0 < s.2.2.2.1 - s.2.1 then decide (0 < crsD s x y) else decide (crsD s x y < 0))
--## d
theorem mul_bd {a b : Int} (ha : -100000 ≤ a ∧ a ≤ 100000) (hb : -100000 ≤ b ∧ b ≤ 100000) : -10000000000 ≤ a * b ∧ a * b ≤ 10000000000 := by
  have h : (a * b).natAbs ≤ 100000 * 100000 := by
    rw [Int.natAbs_mul]
    exact Nat.mul_le_mul (by omega) (by omega)
  omega
--## d
theorem wrap_sub {p q : Int} (hp : -10000000000 ≤ p ∧ p ≤ 10000000000) (hq : -10000000000 ≤ q ∧ q ≤ 10000000000) : wrap64 (wrap64 p - wrap64 q) = p - q := by
  unfold wrap64
  omega
--## d
/-- a side that crosses to the right of a mark crosses to the right of the marks to its left -/
theorem crs_mono {s : S5} {x x2 y : Int} (h : x ≤ x2) (hc : crs s x2 y = true) : crs s x y = true := by
  unfold crs at *
  rw [Bool.and_eq_true] at *
  refine ⟨hc.1, ?_⟩
  have h2 := hc.2
  have hx := hc.1
  have e : crsD s x y = crsD s x2 y + (x2 - x) * (s.2.2.2.1 - s.2.1) := by
    unfold crsD
    have : (x2 - s.1) * (s.2.2.2.1 - s.2.1) = (x - s.1) * (s.2.2.2.1 - s.2.1) + (x2 - x) * (s.2.2.2.1 - s.2.1) := by rw [← Int.add_mul]; congr 1; omega
    omega
  by_cases hp : 0 < s.2.2.2.1 - s.2.1
  · rw [if_pos hp] at *
    have : 0 ≤ (x2 - x) * (s.2.2.2.1 - s.2.1) := Int.mul_nonneg (by omega) (by omega)
    simp only [decide_eq_true_eq] at *
    omega
  · rw [if_neg hp] at *
    have : (x2 - x) * (s.2.2.2.1 - s.2.1) ≤ 0 := Int.mul_nonpos_of_nonneg_of_nonpos (by omega) (by omega)
    simp only [decide_eq_true_eq] at *
    omega
--## d
def cnt (ss : List S5) (x y : Int) (k : Nat) : Nat := (ss.take k).countP fun s => crs s x y
--## d
theorem cnt_step {ss : List S5} {x y : Int} {k : Nat} {s : S5} (hs : ss[k]? = some s) : cnt ss x y (k + 1) = cnt ss x y k + (if crs s x y = true then 1 else 0) := by
  unfold cnt
  rw [List.take_add_one, hs]
  simp [List.countP_append, List.countP_cons]
--## d
theorem cnt_le (ss : List S5) (x y : Int) (k : Nat) : cnt ss x y k ≤ k := Nat.le_trans List.countP_le_length (by simp; omega)
--## d
theorem cnt_zero {ss : List S5} {x x2 y : Int} (h : x ≤ x2) {k : Nat} (hc : cnt ss x y k = 0) : cnt ss x2 y k = 0 := by
  unfold cnt at *
  rw [List.countP_eq_zero] at *
  intro s hs hc2
  exact hc s hs (crs_mono h hc2)
--## d
def rowF (put : List Int → Bool → Int → Int → List Int) (ink : Bool) (ss : List S5) (y : Nat) (zs : List Int) : Nat → List Int
  | 0 => zs
  | k + 1 => if cnt ss k y ss.length % 2 = 1 then put (rowF put ink ss y zs k) ink k y else rowF put ink ss y zs k
--## d
def gridF (put : List Int → Bool → Int → Int → List Int) (ink : Bool) (ss : List S5) (zs : List Int) : Nat → List Int
  | 0 => zs
  | y + 1 => rowF put ink ss y (gridF put ink ss zs y) 64
--## d
def inkS (put : List Int → Bool → Int → Int → List Int) (ink : Bool) (zs : List Int) (ss : List S5) : Nat → List Int
  | 0 => zs
  | k + 1 => strokeF put ink (inkS put ink zs ss k) (ss.getD k (0, 0, 0, 0, 0))
--## d
def fillF (put : List Int → Bool → Int → Int → List Int) (ink : Bool) (ss : List S5) (zs : List Int) : List Int := inkS put ink (gridF put ink ss zs 64) ss ss.length
--## d
section
--## d
variable {put : List Int → Bool → Int → Int → List Int}
--## d
theorem rowF_len (hp : ∀ zs ink x y, (put zs ink x y).length = zs.length) (ink : Bool) (ss : List S5) (y : Nat) (zs : List Int) : ∀ k, (rowF put ink ss y zs k).length = zs.length
  | 0 => rfl
  | k + 1 => by
    unfold rowF
    split
    · rw [hp, rowF_len hp ink ss y zs k]
    · exact rowF_len hp ink ss y zs k
--## d
theorem gridF_len (hp : ∀ zs ink x y, (put zs ink x y).length = zs.length) (ink : Bool) (ss : List S5) (zs : List Int) : ∀ k, (gridF put ink ss zs k).length = zs.length
  | 0 => rfl
  | k + 1 => by
    unfold gridF
    rw [rowF_len hp, gridF_len hp ink ss zs k]
--## d
theorem inkS_len (hp : ∀ zs ink x y, (put zs ink x y).length = zs.length) (ink : Bool) (zs : List Int) (ss : List S5) : ∀ k, (inkS put ink zs ss k).length = zs.length
  | 0 => rfl
  | k + 1 => by
    unfold inkS
    rw [strokeF_len hp, inkS_len hp ink zs ss k]
--## d
end
--## d
theorem rowF_stop {put : List Int → Bool → Int → Int → List Int} {ink : Bool} {ss : List S5} {y : Nat} {zs : List Int} {i : Nat} (hc : cnt ss i y ss.length = 0) : ∀ k, rowF put ink ss y zs (i + k) = rowF put ink ss y zs i
  | 0 => rfl
  | k + 1 => by
    have h0 : cnt ss ((i + k : Nat) : Int) y ss.length = 0 := cnt_zero (by omega) hc
    rw [← Nat.add_assoc]
    show (if cnt ss ((i + k : Nat) : Int) y ss.length % 2 = 1 then _ else _) = _
    rw [if_neg (by rw [h0]; decide)]
    exact rowF_stop hc k
--## d
/-- the sides of a loop -/
def sidesL (ms : List (Int × Int)) : List S5 := (List.range ms.length).map fun i => ((ms.getD i (0, 0)).1, (ms.getD i (0, 0)).2, (ms.getD ((i + 1) % ms.length) (0, 0)).1, (ms.getD ((i + 1) % ms.length) (0, 0)).2, 0)
--## d
theorem sidesL_len (ms : List (Int × Int)) : (sidesL ms).length = ms.length := by simp [sidesL]
--## d
theorem sidesL_get {ms : List (Int × Int)} {i : Nat} {a b : Int × Int} (ha : ms[i]? = some a) (hb : ms[(i + 1) % ms.length]? = some b) : (sidesL ms)[i]? = some (a.1, a.2, b.1, b.2, 0) := by
  have hi : i < ms.length := by
    rcases Nat.lt_or_ge i ms.length with h | h
    · exact h
    · rw [List.getElem?_eq_none h] at ha; cases ha
  unfold sidesL
  rw [List.getElem?_map, List.getElem?_range hi]
  simp [List.getD_eq_getElem?_getD, ha, hb]
--## d
/-- ink that is put or taken alike on both sides -/
theorem bits_range (op : BinOp) (a b : Int) : 0 ≤ IntKind.u64.wrap a ∧ IntKind.u64.wrap a < 18446744073709551616 := by
  rw [IntKind.wrap_u64]
  omega
--## d
theorem setB_range (z : Int) (x : Nat) : 0 ≤ setB z x ∧ setB z x < 18446744073709551616 := by
  unfold setB
  exact bits_range .or _ 0
--## d
theorem clrI_range (z : Int) (x : Nat) : 0 ≤ clrI z x ∧ clrI z x < 18446744073709551616 := by
  unfold clrI
  exact bits_range .andNot _ 0
--## d
theorem putI_sh {zs : List Int} (hs : Sh zs) (ink : Bool) (x y : Int) : Sh (putI zs ink x y) := by
  refine ⟨by rw [putI_len]; exact hs.1, fun z hz => ?_⟩
  unfold putI at hz
  split at hz
  · rcases List.mem_or_eq_of_mem_set hz with h | h
    · exact hs.2 z h
    · subst h
      split
      · exact setB_range _ _
      · exact clrI_range _ _
  · exact hs.2 z hz
--## d
theorem put_same {zs : List Int} (hs : Sh zs) (ink : Bool) (x y : Int) : putS zs ink x y = putI zs ink x y := by
  cases ink
  · unfold putS putI
    by_cases ho : onF x y = true
    · obtain ⟨a, b, rfl, rfl, ha, hb⟩ := onF_true ho
      have hm : zs.getD b 0 ∈ zs := by
        rw [List.getD_eq_getElem?_getD, List.getElem?_eq_getElem (by rw [hs.1]; exact hb)]
        exact List.getElem_mem _
      simp only [ho, if_true, Int.toNat_natCast, Bool.false_eq_true, if_false]
      rw [clr_same _ _ (hs.2 _ hm) ha]
    · rw [if_neg ho, if_neg ho]
  · unfold putS putI; simp
--## d
theorem inkN_same (d : Int) (ink : Bool) {zs : List Int} (hs : Sh zs) (ms : List (Int × Int)) : ∀ k, inkN putS d ink zs ms k = inkN putI d ink zs ms k ∧ Sh (inkN putI d ink zs ms k)
  | 0 => ⟨rfl, hs⟩
  | k + 1 => by
    obtain ⟨e, h⟩ := inkN_same d ink hs ms k
    unfold inkN
    rw [e]
    split
    · exact ⟨put_same h _ _ _, putI_sh h _ _ _⟩
    · exact ⟨rfl, h⟩
--## d
theorem inkS_same (ink : Bool) {zs : List Int} (hs : Sh zs) (ss : List S5) : ∀ k, inkS putS ink zs ss k = inkS putI ink zs ss k ∧ Sh (inkS putI ink zs ss k)
  | 0 => ⟨rfl, hs⟩
  | k + 1 => by
    obtain ⟨e, h⟩ := inkS_same ink hs ss k
    unfold inkS
    rw [e]
    exact inkN_same _ _ h _ _
--## d
theorem rowF_same (ink : Bool) (ss : List S5) (y : Nat) {zs : List Int} (hs : Sh zs) : ∀ k, rowF putS ink ss y zs k = rowF putI ink ss y zs k ∧ Sh (rowF putI ink ss y zs k)
  | 0 => ⟨rfl, hs⟩
  | k + 1 => by
    obtain ⟨e, h⟩ := rowF_same ink ss y hs k
    unfold rowF
    rw [e]
    split
    · exact ⟨put_same h _ _ _, putI_sh h _ _ _⟩
    · exact ⟨rfl, h⟩
--## d
theorem gridF_same (ink : Bool) (ss : List S5) {zs : List Int} (hs : Sh zs) : ∀ k, gridF putS ink ss zs k = gridF putI ink ss zs k ∧ Sh (gridF putI ink ss zs k)
  | 0 => ⟨rfl, hs⟩
  | k + 1 => by
    obtain ⟨e, h⟩ := gridF_same ink ss hs k
    unfold gridF
    rw [e]
    exact rowF_same _ _ _ h _
--## d
theorem fillF_same (ink : Bool) (ss : List S5) {zs : List Int} (hs : Sh zs) : fillF putS ink ss zs = fillF putI ink ss zs ∧ Sh (fillF putI ink ss zs) := by
  unfold fillF
  obtain ⟨e, h⟩ := gridF_same ink ss hs 64
  rw [e]
  exact inkS_same ink h ss _
--## d
set_option maxHeartbeats 1000000 in
theorem crossesI (s : S5) (y : Int) (hwf : wfK s) (w : World) : Calls Try.prog 91 #[st s.1 s.2.1 s.2.2.1 s.2.2.2.1 s.2.2.2.2, .int .i64 y] w (Gives (isB (crsX s y)) w) := by
  obtain ⟨⟨a1, a2⟩, ⟨b1, b2⟩, ⟨c1, c2⟩, ⟨d1, d2⟩, _⟩ := hwf
  go_enter Try.func91, Try.ntmps91
  go_wp2_with fail
  simp [bodyPost, results, Try.results91, go_sem, *]
  exact ⟨_, rfl, rfl, (by ((try simp only [Hid] at *); repeat' (first | (with_reducible exact Below.refl _ _) | (with_reducible assumption) | (with_reducible refine below_drewN ?_ _) | (with_reducible refine Below.drew ?_) | (with_reducible refine below_alloc ?_) | (with_reducible refine below_set ?_ ?_) | (refine below_step (by with_reducible assumption) ?_) | (simp; done) | (simp; omega) | omega)))⟩
--## d
set_option maxHeartbeats 4000000 in
theorem l06CrossesS (a b c d x y : Int) (ha : I16 a) (hb : I16 b) (hc : I16 c) (hd : I16 d) (hx : 0 ≤ x ∧ x ≤ 63) (hy : 0 ≤ y ∧ y ≤ 63) (w : World) : Calls Try.prog 56 #[mk a b, mk c d, .int .i64 x, .int .i64 y] w (Gives (isB (crs (a, b, c, d, 0) x y)) w) := by
  obtain ⟨a1, a2⟩ := ha
  obtain ⟨b1, b2⟩ := hb
  obtain ⟨c1, c2⟩ := hc
  obtain ⟨d1, d2⟩ := hd
  obtain ⟨x1, x2⟩ := hx
  obtain ⟨y1, y2⟩ := hy
  have hw := wrap_sub (mul_bd (a := c - a) (b := y - b) (by omega) (by omega)) (mul_bd (a := x - a) (b := d - b) (by omega) (by omega))
  have HW : Aside (crs (a, b, c, d, 0) x y = ((decide (b ≤ y) != decide (d ≤ y)) && (if 0 < d - b then decide (0 < (c - a) * (y - b) - (x - a) * (d - b)) else decide ((c - a) * (y - b) - (x - a) * (d - b) < 0)))) := rfl
  generalize hD : (c - a) * (y - b) - (x - a) * (d - b) = D at hw HW
  clear hD
  by_cases h1 : b ≤ y <;> by_cases h2 : d ≤ y
  · simp only [h1, h2, decide_true, bne_self_eq_false, Bool.false_and] at HW
    go_enter Try.func56, Try.ntmps56
    go_wp2_with fail
    simp [bodyPost, results, Try.results56, go_sem, *]
    exact ⟨_, rfl, by rw [HW.out]; rfl, (by ((try simp only [Hid] at *); repeat' (first | (with_reducible exact Below.refl _ _) | (with_reducible assumption) | (with_reducible refine below_drewN ?_ _) | (with_reducible refine Below.drew ?_) | (with_reducible refine below_alloc ?_) | (with_reducible refine below_set ?_ ?_) | (refine below_step (by with_reducible assumption) ?_) | (simp; done) | (simp; omega) | omega)))⟩
  · have h3 : ¬ d ≤ b := by omega
    have h4 : b < d := by omega
    have h5 : ¬ d < b := by omega
    rw [if_pos (by omega)] at HW
    simp only [h1, h2, decide_true, decide_false] at HW
    by_cases hd : 0 < D
    · have h6 : ¬ D < 0 := by omega
      go_enter Try.func56, Try.ntmps56
      go_wp2_with fail
      simp [bodyPost, results, Try.results56, go_sem, *]
      exact ⟨_, rfl, by rw [HW.out]; simp [isB, hd], (by ((try simp only [Hid] at *); repeat' (first | (with_reducible exact Below.refl _ _) | (with_reducible assumption) | (with_reducible refine below_drewN ?_ _) | (with_reducible refine Below.drew ?_) | (with_reducible refine below_alloc ?_) | (with_reducible refine below_set ?_ ?_) | (refine below_step (by with_reducible assumption) ?_) | (simp; done) | (simp; omega) | omega)))⟩
    · go_enter Try.func56, Try.ntmps56
      go_wp2_with fail
      all_goals simp [bodyPost, results, Try.results56, go_sem, *]
      all_goals exact ⟨_, rfl, by rw [HW.out]; simp [isB, hd], (by ((try simp only [Hid] at *); repeat' (first | (with_reducible exact Below.refl _ _) | (with_reducible assumption) | (with_reducible refine below_drewN ?_ _) | (with_reducible refine Below.drew ?_) | (with_reducible refine below_alloc ?_) | (with_reducible refine below_set ?_ ?_) | (refine below_step (by with_reducible assumption) ?_) | (simp; done) | (simp; omega) | omega)))⟩
  · have h4 : ¬ b < d := by omega
    have h5 : d < b := by omega
    rw [if_neg (by omega)] at HW
    simp only [h1, h2, decide_true, decide_false] at HW
    by_cases hd : 0 < D
    · have h6 : ¬ D < 0 := by omega
      go_enter Try.func56, Try.ntmps56
      go_wp2_with fail
      all_goals simp [bodyPost, results, Try.results56, go_sem, *]
      all_goals exact ⟨_, rfl, by rw [HW.out]; simp [isB, h6], (by ((try simp only [Hid] at *); repeat' (first | (with_reducible exact Below.refl _ _) | (with_reducible assumption) | (with_reducible refine below_drewN ?_ _) | (with_reducible refine Below.drew ?_) | (with_reducible refine below_alloc ?_) | (with_reducible refine below_set ?_ ?_) | (refine below_step (by with_reducible assumption) ?_) | (simp; done) | (simp; omega) | omega)))⟩
    · by_cases h6 : D < 0
      · go_enter Try.func56, Try.ntmps56
        go_wp2_with fail
        all_goals simp [bodyPost, results, Try.results56, go_sem, *]
        all_goals exact ⟨_, rfl, by rw [HW.out]; simp [isB, h6], (by ((try simp only [Hid] at *); repeat' (first | (with_reducible exact Below.refl _ _) | (with_reducible assumption) | (with_reducible refine below_drewN ?_ _) | (with_reducible refine Below.drew ?_) | (with_reducible refine below_alloc ?_) | (with_reducible refine below_set ?_ ?_) | (refine below_step (by with_reducible assumption) ?_) | (simp; done) | (simp; omega) | omega)))⟩
      · go_enter Try.func56, Try.ntmps56
        go_wp2_with fail
        all_goals simp [bodyPost, results, Try.results56, go_sem, *]
        all_goals exact ⟨_, rfl, by rw [HW.out]; simp [isB, h6], (by ((try simp only [Hid] at *); repeat' (first | (with_reducible exact Below.refl _ _) | (with_reducible assumption) | (with_reducible refine below_drewN ?_ _) | (with_reducible refine Below.drew ?_) | (with_reducible refine below_alloc ?_) | (with_reducible refine below_set ?_ ?_) | (refine below_step (by with_reducible assumption) ?_) | (simp; done) | (simp; omega) | omega)))⟩
  · simp only [h1, h2, decide_false, bne_self_eq_false, Bool.false_and] at HW
    go_enter Try.func56, Try.ntmps56
    go_wp2_with fail
    simp [bodyPost, results, Try.results56, go_sem, *]
    exact ⟨_, rfl, by rw [HW.out]; rfl, (by ((try simp only [Hid] at *); repeat' (first | (with_reducible exact Below.refl _ _) | (with_reducible assumption) | (with_reducible refine below_drewN ?_ _) | (with_reducible refine Below.drew ?_) | (with_reducible refine below_alloc ?_) | (with_reducible refine below_set ?_ ?_) | (refine below_step (by with_reducible assumption) ?_) | (simp; done) | (simp; omega) | omega)))⟩
--## d
end Go.Proofs.Ytbhbdpcefgledaa
