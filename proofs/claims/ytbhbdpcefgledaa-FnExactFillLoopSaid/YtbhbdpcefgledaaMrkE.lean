/- Contracts: nearest integers; the marks of a stroke. -/
import Derived.Test.YtbhbdpcefgledaaMrkD
import Derived.Test.YtbhbdpcefgledaaMrkC
import Derived.Maps.AppendAt
namespace Go.Proofs.Ytbhbdpcefgledaa
--## d
open Go.RowKit Go.Mem
set_option linter.unusedSimpArgs false
set_option linter.unusedVariables false
set_option maxRecDepth 20000
--## d
def nearF (p q : Int) : Int := (2 * p + q) / (2 * q)
--## d
theorem tdiv_fl (p q : Int) (hq : 0 < q) : p.tdiv q = if p.tmod q < 0 then p / q + 1 else p / q := by
  have h := Int.mul_tdiv_add_tmod p q
  have h1 := Int.tmod_lt_of_pos p hq
  have h2 := Int.lt_tmod_of_pos p hq
  split
  · rename_i hn
    have := (Int.ediv_emod_unique hq (a := p) (q := p.tdiv q - 1) (r := p.tmod q + q)).2 ⟨by rw [Int.mul_sub]; omega, by omega, by omega⟩
    omega
  · rename_i hn
    have := (Int.ediv_emod_unique hq (a := p) (q := p.tdiv q) (r := p.tmod q)).2 ⟨by omega, by omega, by omega⟩
    omega
--## d
theorem ediv_bd (p q B : Int) (hq : 0 < q) (hB : 0 ≤ B) (h1 : -B ≤ p) (h2 : p ≤ B) : -B ≤ p / q ∧ p / q ≤ B := by
  have hm : B ≤ B * q := by
    have := Int.mul_le_mul_of_nonneg_left (show (1 : Int) ≤ q by omega) hB
    omega
  refine ⟨Int.le_ediv_of_mul_le hq ?_, Int.ediv_le_of_le_mul hq ?_⟩
  · rw [Int.neg_mul]; omega
  · omega
--## d
set_option maxRecDepth 20000 in
set_option maxHeartbeats 400000 in
theorem l06NearA (p q : Int) (hp : -1000000 ≤ p) (hp2 : p ≤ 1000000) (hq : 0 < q) (hq2 : q ≤ 2000) (w : World) : Calls Try.prog 90 #[.int .i64 p, .int .i64 q] w (Same (fun v => v = .int .i64 (nearF p q)) w) := by
  obtain ⟨hb1, hb2⟩ := ediv_bd (2 * p + q) (2 * q) 9000000 (by omega) (by omega) (by omega) (by omega)
  have ht := tdiv_fl (2 * p + q) (2 * q) (by omega)
  have ht1 : -9000001 ≤ (2 * p + q).tdiv (2 * q) ∧ (2 * p + q).tdiv (2 * q) ≤ 9000001 := by split at ht <;> omega
  obtain ⟨ht1, ht2⟩ := ht1
  have HT : Aside ((2 * p + q).tdiv (2 * q) = if (2 * p + q).tmod (2 * q) < 0 then (2 * p + q) / (2 * q) + 1 else (2 * p + q) / (2 * q)) := ht
  clear ht hb1 hb2
  go_enter Try.func90, Try.ntmps90
  go_wp2_with fail
  all_goals
    simp [bodyPost, results, Try.results90, go_sem]
    refine ⟨_, rfl, ?_, rfl⟩
    have ht := HT.out
    unfold nearF
    split at ht
    all_goals first | (congr 1; done) | (congr 1; omega) | omega
--## d
set_option maxRecDepth 20000 in
set_option maxHeartbeats 400000 in
theorem floorOverA (p q : Int) (hp : -9000000 ≤ p) (hp2 : p ≤ 9000000) (hq : 0 < q) (hq2 : q ≤ 4000) (w : World) : Calls Try.prog 97 #[.int .i64 p, .int .i64 q] w (Same (fun v => v = .int .i64 (p / q)) w) := by
  obtain ⟨hb1, hb2⟩ := ediv_bd p q 9000000 (by omega) (by omega) (by omega) (by omega)
  have ht := tdiv_fl p q (by omega)
  have ht1 : -9000001 ≤ p.tdiv q ∧ p.tdiv q ≤ 9000001 := by split at ht <;> omega
  obtain ⟨ht1, ht2⟩ := ht1
  have HT : Aside (p.tdiv q = if p.tmod q < 0 then p / q + 1 else p / q) := ht
  clear ht hb1 hb2
  go_enter Try.func97, Try.ntmps97
  go_wp2_with fail
  all_goals
    simp [bodyPost, results, Try.results97, go_sem]
    refine ⟨_, rfl, ?_, rfl⟩
    have ht := HT.out
    split at ht
    all_goals first | (congr 1; done) | (congr 1; omega) | omega
--## d
set_option maxRecDepth 20000 in
set_option maxHeartbeats 400000 in
theorem nearestA (p q : Int) (hp : -1000000 ≤ p) (hp2 : p ≤ 1000000) (hq : 0 < q) (hq2 : q ≤ 2000) (w : World) : Calls Try.prog 92 #[.int .i64 p, .int .i64 q] w (Same (fun v => v = .int .i64 (nearF p q)) w) := by
  have hf := floorOverA (2 * p + q) (2 * q) (by omega) (by omega) (by omega) (by omega)
  go_enter Try.func92, Try.ntmps92
  go_wp2_with (first | (go_at_call 97; refine (hf _).mono ?_; rintro e w' ⟨_, rfl, rfl, rfl⟩))
  all_goals
    simp [bodyPost, results, Try.results92, go_sem]
    exact ⟨_, rfl, rfl, rfl⟩
--## d
theorem dist_bd {a b c d : Int} (ha : -500 ≤ a ∧ a ≤ 500) (hb : -500 ≤ b ∧ b ≤ 500) (hc : -500 ≤ c ∧ c ≤ 500) (hd : -500 ≤ d ∧ d ≤ 500) : 0 ≤ distF a b c d ∧ distF a b c d ≤ 1000 ∧ -distF a b c d ≤ c - a ∧ c - a ≤ distF a b c d ∧ -distF a b c d ≤ d - b ∧ d - b ≤ distF a b c d := by
  unfold distF maxF farF
  repeat' split
  all_goals omega
--## d
theorem near_bd {k w n : Int} (h0 : 0 ≤ k) (hk : k ≤ n) (hn : 0 < n) (hn2 : n ≤ 1000) (h1 : -n ≤ w) (h2 : w ≤ n) : -1000000 ≤ k * w ∧ k * w ≤ 1000000 ∧ -1000 ≤ nearF (k * w) n ∧ nearF (k * w) n ≤ 1000 := by
  have e1 : k * w ≤ k * n := Int.mul_le_mul_of_nonneg_left h2 h0
  have e2 : k * (-n) ≤ k * w := Int.mul_le_mul_of_nonneg_left h1 h0
  have e3 : k * n ≤ 1000 * n := Int.mul_le_mul_of_nonneg_right (by omega) (by omega)
  have e4 : k * (-n) = -(k * n) := Int.mul_neg _ _
  refine ⟨by omega, by omega, ?_, ?_⟩
  · unfold nearF
    exact Int.le_ediv_of_mul_le (by omega) (by omega)
  · unfold nearF
    have : (2 * (k * w) + n) / (2 * n) < 1001 := Int.ediv_lt_of_lt_mul (by omega) (by omega)
    omega
--## d
def marksN (a b c d n : Int) : List (Int × Int) := (List.range (n.toNat + 1)).map fun k : Nat => (a + nearF ((k : Int) * (c - a)) n, b + nearF ((k : Int) * (d - b)) n)
--## d
theorem wrapI16 (x : Int) (h1 : -32768 ≤ x) (h2 : x ≤ 32767) : IntKind.i16.wrap x = x := by
  unfold IntKind.wrap
  simp [IntKind.signed, IntKind.bits]
  omega
--## d
theorem twoC (W : World) (x y : Value) (t : TypeId) (g : Nat) (hg : g = W.heap.size) : ∀ (j : Nat) (u : Value), [x, y][j]? = some u → (W.alloc (.cells #[x, y] t)).cell? ((⟨g, 0, none⟩ : Addr).add j) = some u := by
  intro j u h
  subst hg
  rw [Addr.add_mid]
  match j, h with
  | 0, h => simp at h; subst h; exact World.cell?_alloc_at _ _ _ _ rfl
  | 1, h => simp at h; subst h; exact World.cell?_alloc_at _ _ _ _ rfl
--## d
theorem m_one (x y : Int) : ∀ u ∈ [Value.int .i16 x, Value.int .i16 y], u.oneCell' = true := by
  intro u hu
  simp at hu
  rcases hu with rfl | rfl <;> rfl
--## d
theorem below_appM {W wr w1 : World} {v : Value} {e n m : Nat} {xs : List Value} {o : Obj} (hB : Below W.heap.size W wr) (hown : wr.ownsRow W.heap.size e n v m xs) (hg : (wr.alloc o).grownBy w1 v.ownBlock) : Below W.heap.size W w1 := by
  refine (below_alloc hB).grown hg (Nat.le_trans hB.size (by simp)) (fun k hk => ?_)
  exact (hown.lt k hk).1
--## d
theorem rls_owns {w : World} {base E n m : Nat} {v : Value} {xs : List Value} {rs : List (List Value)} (h : w.ownsRow base E m v n xs) (hx : xs = rs.flatten) (hn : rs.length = n) (hr : ∀ r ∈ rs, r.length = m) : Rls m w v rs := by
  have hc := fun g hg => h.cells (g := g) hg
  obtain ⟨hl, h'⟩ := h
  rcases h' with ⟨rfl, rfl⟩ | ⟨g, cap, cur, rfl, hb, hg, h1, h2, h3, h4⟩
  · have : rs = [] := List.eq_nil_of_length_eq_zero hn
    subst this
    exact ⟨none, 0, rfl, fun j r hr => by simp at hr⟩
  · refine ⟨some ⟨g, 0, none⟩, cap, by rw [hn], fun j r hj => ⟨⟨g, 0, none⟩, rfl, (Array.getElem?_eq_some_iff.1 hg).1, fun k x hk => ?_⟩⟩
    have := hc g rfl (j * m + k) x (by rw [hx]; exact flatten_get j hr hj k x hk)
    rw [Addr.add_mid] at this ⊢
    rw [Addr.add_mid]
    rw [show 0 + j * m + k = 0 + (j * m + k) by omega]
    exact this
--## d
theorem rM_row {ms : List (Int × Int)} : ∀ r ∈ rM ms, r.length = 2 := by
  intro r hr
  simp only [rM, List.mem_map] at hr
  obtain ⟨t, _, rfl⟩ := hr
  rfl
--## d
theorem marksN_len (a b c d n : Int) : (marksN a b c d n).length = n.toNat + 1 := by simp [marksN]
--## d
theorem marksN_get (a b c d n : Int) (i : Nat) (h : i < n.toNat + 1) : (marksN a b c d n)[i]? = some (a + nearF ((i : Int) * (c - a)) n, b + nearF ((i : Int) * (d - b)) n) := by
  unfold marksN
  rw [List.getElem?_map, List.getElem?_range h]
  rfl
--## d
theorem rls_one {w : World} {g : Nat} {a b : Int} {k : Nat} (hg : g < w.heap.size) (h0 : w.cell? ⟨g, 0, none⟩ = some (.int .i16 a)) (h1 : w.cell? ⟨g, 1, none⟩ = some (.int .i16 b)) : Rls 2 w (.slice (some ⟨g, 0, none⟩) 1 k) (rM [(a, b)]) := by
  refine ⟨some ⟨g, 0, none⟩, k, rfl, fun j r hr => ⟨⟨g, 0, none⟩, rfl, hg, fun i x hx => ?_⟩⟩
  match j, hr with
  | 0, hr =>
    simp [rM] at hr; subst hr
    match i, hx with
    | 0, hx => simp at hx; subst hx; exact h0
    | 1, hx => simp at hx; subst hx; exact h1
--## d
theorem infoM : (Try.prog.info? 45).map (fun i => (i.zero, i.size, i.bytes)) = some (some (mk 0 0), 2, 4) := by kernel_rfl
--## d
set_option maxRecDepth 20000 in
set_option maxHeartbeats 1000000 in
theorem l06MarksS (a b c d : Int) (ha : -500 ≤ a ∧ a ≤ 500) (hb : -500 ≤ b ∧ b ≤ 500) (hc : -500 ≤ c ∧ c ≤ 500) (hd : -500 ≤ d ∧ d ≤ 500) (w : World) : Calls Try.prog 79 #[mk a b, mk c d] w (fun e w' => ∃ v, e = .returned v ∧ Rls 2 w' v (rM (marksN a b c d (distF a b c d))) ∧ Below w.heap.size w w') := by
  obtain ⟨hn0, hn1, hx0, hx1, hy0, hy1⟩ := dist_bd ha hb hc hd
  have HD : Aside (∀ w, Calls Try.prog 37 #[mk a b, mk c d] w (Gives (fun v => v = .int .i64 (distF a b c d)) w)) := l06DistanceA a b c d (by unfold I16; omega) (by unfold I16; omega) (by unfold I16; omega) (by unfold I16; omega)
  generalize distF a b c d = n at *
  by_cases hn : n = 0
  · subst hn
    go_enter Try.func79, Try.ntmps79
    go_wp2_with (first | (go_at_call 37; refine (HD.out _).mono ?_; rintro e w' ⟨_, rfl, rfl, hb⟩; obtain ⟨hc, hf⟩ := bcell hb; (try simp at hc hf); have hs := hb.size; (try simp at hs); (try (have hz0 : w.heap.size < w'.heap.size := (by omega))); (try (have hz1 : w.heap.size + 1 < w'.heap.size := (by omega))); (try (have hz2 : w.heap.size + 1 + 1 < w'.heap.size := (by omega))); (try (have hz3 : w.heap.size + 1 + 1 + 1 < w'.heap.size := (by omega))); have HB := Lib.hid hb; clear hb hs))
    simp [bodyPost, results, Try.results79, go_sem]
    refine ⟨?_, below_step HB.out (below_alloc (below_alloc (Below.refl _ _))) |> below_alloc⟩
    have e : marksN a b c d 0 = [(a, b)] := by simp [marksN, nearF]
    rw [e]
    exact rls_one (by simp) (by simp [go_sem]) (by simp [go_sem])
  · obtain ⟨i0, hi, hz0, hz1, hz2⟩ := info_parts infoM
    have hn' : (n == 0) = false := by simpa using hn
    go_enter Try.func79, Try.ntmps79
    go_wp2_with (first | (go_at_call 37; refine (HD.out _).mono ?_; rintro e w2 ⟨_, rfl, rfl, hb⟩; obtain ⟨hcc, hff⟩ := bcell hb; simp at hcc; have hs := hb.size; simp at hs; have HB2 : Aside (Below w.heap.size w w2) := below_step hb (below_alloc (below_alloc (Below.refl _ _))); have C2 : Aside (w2.cell? ⟨w.heap.size, 0, none⟩ = some (.int .i16 a) ∧ w2.cell? ⟨w.heap.size, 1, none⟩ = some (.int .i16 b) ∧ w2.cell? ⟨w.heap.size + 1, 0, none⟩ = some (.int .i16 c) ∧ w2.cell? ⟨w.heap.size + 1, 1, none⟩ = some (.int .i16 d) ∧ w.heap.size + 2 ≤ w2.heap.size) := ⟨(by rw [hcc _ _ (by omega)]; simp [go_sem]), (by rw [hcc _ _ (by omega)]; simp [go_sem]), (by rw [hcc _ _ (by omega)]; simp [go_sem]), (by rw [hcc _ _ (by omega)]; simp [go_sem]), hs⟩; clear hcc hff hb hs))
    go_loopg [6, 7] (n.toNat + 1) (fun k s6 s7 wr => ∃ (i : Nat) (xs : List Value), s7 = .int .i64 i ∧ i + k = n.toNat + 1 ∧ xs = ((rM (marksN a b c d n)).take i).flatten ∧ wr.ownsRow w2.heap.size 45 2 s6 i xs ∧ Below w2.heap.size w2 wr)
    · exact ⟨0, [], rfl, by omega, rfl, World.ownsRow_made w2 #[] 0 (Nat.le_refl _) (by unfold maxLen; omega) rfl, below_alloc (Below.refl _ _)⟩
    · obtain ⟨i, xs, rfl, hik, hxs, hown, hB⟩ := hrel
      have B : Aside (i + gk = n.toNat + 1 ∧ xs = ((rM (marksN a b c d n)).take i).flatten ∧ Below w2.heap.size w2 wr) := ⟨hik, hxs, hB⟩
      by_cases hi : i < n.toNat + 1
      · have hi' : (i : Int) ≤ n := by omega
        clear hik hxs hB
        go_wp2_with fail
        refine wp_loop_rounds 3 ?_
        rw [rounds_succ]
        go_wp2_with fail
        have X1 := near_bd (k := (i : Int)) (by omega) hi' (by omega) hn1 hx0 hx1
        have Y1 := near_bd (k := (i : Int)) (by omega) hi' (by omega) hn1 hy0 hy1
        have e1 : IntKind.i64.wrap (c - a) = c - a := wrapIn _ (by omega) (by omega)
        have e2 : IntKind.i64.wrap (d - b) = d - b := wrapIn _ (by omega) (by omega)
        have e3 : IntKind.i64.wrap ((i : Int) * (c - a)) = (i : Int) * (c - a) := wrapIn _ (by omega) (by omega)
        have e4 : IntKind.i64.wrap ((i : Int) * (d - b)) = (i : Int) * (d - b) := wrapIn _ (by omega) (by omega)
        have e5 : IntKind.i64.wrap (a + nearF ((i : Int) * (c - a)) n) = a + nearF ((i : Int) * (c - a)) n := wrapIn _ (by omega) (by omega)
        have e6 : IntKind.i64.wrap (b + nearF ((i : Int) * (d - b)) n) = b + nearF ((i : Int) * (d - b)) n := wrapIn _ (by omega) (by omega)
        have e7 : IntKind.i16.wrap (a + nearF ((i : Int) * (c - a)) n) = a + nearF ((i : Int) * (c - a)) n := wrapI16 _ (by omega) (by omega)
        have e8 : IntKind.i16.wrap (b + nearF ((i : Int) * (d - b)) n) = b + nearF ((i : Int) * (d - b)) n := wrapI16 _ (by omega) (by omega)
        have ea : IntKind.i64.wrap a = a := wrapIn _ (by omega) (by omega)
        have eb : IntKind.i64.wrap b = b := wrapIn _ (by omega) (by omega)
        have ec : IntKind.i64.wrap c = c := wrapIn _ (by omega) (by omega)
        have ed : IntKind.i64.wrap d = d := wrapIn _ (by omega) (by omega)
        have N1 := l06NearA ((i : Int) * (c - a)) n (near_bd (by omega) hi' (by omega) hn1 hx0 hx1).1 (near_bd (by omega) hi' (by omega) hn1 hx0 hx1).2.1 (by omega) (by omega)
        have N2 := l06NearA ((i : Int) * (d - b)) n (near_bd (by omega) hi' (by omega) hn1 hy0 hy1).1 (near_bd (by omega) hi' (by omega) hn1 hy0 hy1).2.1 (by omega) (by omega)
        have hK : ∀ W, Bel wr W → W.cell? ⟨w.heap.size, 0, none⟩ = some (.int .i16 a) ∧ W.cell? ⟨w.heap.size, 1, none⟩ = some (.int .i16 b) ∧ W.cell? ⟨w.heap.size + 1, 0, none⟩ = some (.int .i16 c) ∧ W.cell? ⟨w.heap.size + 1, 1, none⟩ = some (.int .i16 d) ∧ Bel wr W := fun W hW => by
          obtain ⟨c1, c2, c3, c4, hsz⟩ := C2.out
          have hbw := B.out.2.2
          obtain ⟨hcc, hff⟩ := bcell (W := w2) (w1 := W) (below_step hW hbw)
          have hs2 := hbw.size
          refine ⟨by rw [hcc _ _ (by omega)]; exact c1, by rw [hcc _ _ (by omega)]; exact c2, by rw [hcc _ _ (by omega)]; exact c3, by rw [hcc _ _ (by omega)]; exact c4, hW⟩
        go_region_held3 (fun W => W.cell? ⟨w.heap.size, 0, none⟩ = some (.int .i16 a) ∧ W.cell? ⟨w.heap.size, 1, none⟩ = some (.int .i16 b) ∧ W.cell? ⟨w.heap.size + 1, 0, none⟩ = some (.int .i16 c) ∧ W.cell? ⟨w.heap.size + 1, 1, none⟩ = some (.int .i16 d) ∧ Bel wr W) (first | exact hK _ (Bel.drew (Bel.alloc (Bel.refl _))) | exact hK _ (Bel.alloc (Bel.refl _)) | assumption | exact hK _ (And.right (And.right (And.right (And.right (by assumption))))) | exact hK _ (Bel.drew (And.right (And.right (And.right (And.right (by assumption)))))) | go_keep) (first | (go_at_call 90; (try simp only [ea, ec, e1, e3]); refine (N1 _).mono ?_; rintro e w' ⟨_, rfl, rfl, rfl⟩))
        all_goals go_wp2_with fail
        all_goals rw [rounds_succ]
        all_goals go_wp2_with fail
        all_goals go_region_held3 (fun W => W.cell? ⟨w.heap.size, 0, none⟩ = some (.int .i16 a) ∧ W.cell? ⟨w.heap.size, 1, none⟩ = some (.int .i16 b) ∧ W.cell? ⟨w.heap.size + 1, 0, none⟩ = some (.int .i16 c) ∧ W.cell? ⟨w.heap.size + 1, 1, none⟩ = some (.int .i16 d) ∧ Bel wr W) (first | exact hK _ (Bel.drew (Bel.drew (Bel.alloc (Bel.refl _)))) | exact hK _ (Bel.drew (Bel.alloc (Bel.refl _))) | exact hK _ (Bel.alloc (Bel.refl _)) | assumption | exact hK _ (And.right (And.right (And.right (And.right (by assumption))))) | exact hK _ (Bel.drew (And.right (And.right (And.right (And.right (by assumption)))))) | go_keep) (first | (go_at_call 90; (try simp only [eb, ed, e2, e4]); refine (N2 _).mono ?_; rintro e w' ⟨_, rfl, rfl, rfl⟩))
        all_goals go_wp2_with fail
        all_goals rw [rounds_succ]
        all_goals have hownA := (((hown.alloc (.cells #[.int .i16 (a + nearF ((i : Int) * (c - a)) n), .int .i16 (b + nearF ((i : Int) * (d - b)) n)] 45)).drew).drew)
        all_goals have hsz := B.out.2.2.size
        all_goals go_wp2_with (at_builtin; refine wpList_append_own _ rfl _ _ 30 rfl w2.heap.size 45 i0 (mk 0 0) 2 4 Try.underlying30 ‹_› hz0 hz1 hz2 rfl (by decide) _ _ _ rfl (hownA.alloc _) ⟨wr.heap.size + 1, 0, none⟩ 1 1 [.int .i16 (a + nearF ((i : Int) * (c - a)) n), .int .i16 (b + nearF ((i : Int) * (d - b)) n)] rfl rfl (twoC _ _ _ _ _ (by simp)) (m_one _ _) (by unfold maxLen; omega) (by omega) (by simp; omega) ?_; intro v' w1 hown1 hg1 _)
        all_goals obtain ⟨hik, hxs, hB⟩ := B.out
        all_goals go_roundg (gk - 1)
        · refine ⟨i + 1, _, ?_, by omega, ?_, hown1, below_appM (below_alloc hB).drew.drew hownA hg1⟩
          · first
              | (congr 1; done)
              | (congr 1; unfold wrap64; omega)
          · rw [flatten_take (rM_get (marksN_get a b c d n i hi)), hxs]
        · omega
      · have hi' : ¬ ((i : Int) ≤ n) := by omega
        have hie : i = n.toNat + 1 := by omega
        go_wp2_with fail
        simp [bodyPost, results, Try.results79, go_sem]
        refine ⟨rls_owns hown (by rw [hxs, hie, List.take_of_length_le]; rw [rM_len, marksN_len]; omega) (by rw [rM_len, marksN_len, hie]) rM_row, below_step hB HB2.out⟩
--## d
end Go.Proofs.Ytbhbdpcefgledaa
