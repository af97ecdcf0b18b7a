/- Contracts: nearest integers; the marks of a stroke. -/
import Derived.Test.YteckjpdfecgljaaMrkD
import Derived.Test.YteckjpdfecgljaaMrkC
import Derived.Maps.AppendAt
namespace Go.Proofs.Yteckjpdfecgljaa
--## d
open Go.RowKit Go.Mem
set_option linter.unusedSimpArgs false
set_option linter.unusedVariables false
set_option maxRecDepth 20000
--## d
def nearF (p q : Int) : Int := (2 * p + q) / (2 * q)
--## d
theorem tdiv_fl (p q : Int) (hq : 0 < q) : p.tdiv q = if p.tmod q < 0 then p / q + 1 else p / q := by
  have h := Int.mul_tdiv_add_tmod p q
  have h1 := Int.tmod_lt_of_pos p hq
  have h2 := Int.lt_tmod_of_pos p hq
  split
  · rename_i hn
    have := (Int.ediv_emod_unique hq (a := p) (q := p.tdiv q - 1) (r := p.tmod q + q)).2 ⟨by rw [Int.mul_sub]; omega, by omega, by omega⟩
    omega
  · rename_i hn
    have := (Int.ediv_emod_unique hq (a := p) (q := p.tdiv q) (r := p.tmod q)).2 ⟨by omega, by omega, by omega⟩
    omega
--## d
theorem ediv_bd (p q B : Int) (hq : 0 < q) (hB : 0 ≤ B) (h1 : -B ≤ p) (h2 : p ≤ B) : -B ≤ p / q ∧ p / q ≤ B := by
  have hm : B ≤ B * q := by
    have := Int.mul_le_mul_of_nonneg_left (show (1 : Int) ≤ q by omega) hB
    omega
  refine ⟨Int.le_ediv_of_mul_le hq ?_, Int.ediv_le_of_le_mul hq ?_⟩
  · rw [Int.neg_mul]; omega
  · omega
--## d
theorem dist_bd {a b c d : Int} (ha : -500 ≤ a ∧ a ≤ 500) (hb : -500 ≤ b ∧ b ≤ 500) (hc : -500 ≤ c ∧ c ≤ 500) (hd : -500 ≤ d ∧ d ≤ 500) : 0 ≤ distF a b c d ∧ distF a b c d ≤ 1000 ∧ -distF a b c d ≤ c - a ∧ c - a ≤ distF a b c d ∧ -distF a b c d ≤ d - b ∧ d - b ≤ distF a b c d := by
  unfold distF maxF farF
  repeat' split
  all_goals omega
--## d
theorem near_bd {k w n : Int} (h0 : 0 ≤ k) (hk : k ≤ n) (hn : 0 < n) (hn2 : n ≤ 1000) (h1 : -n ≤ w) (h2 : w ≤ n) : -1000000 ≤ k * w ∧ k * w ≤ 1000000 ∧ -1000 ≤ nearF (k * w) n ∧ nearF (k * w) n ≤ 1000 := by
  have e1 : k * w ≤ k * n := Int.mul_le_mul_of_nonneg_left h2 h0
  have e2 : k * (-n) ≤ k * w := Int.mul_le_mul_of_nonneg_left h1 h0
  have e3 : k * n ≤ 1000 * n := Int.mul_le_mul_of_nonneg_right (by omega) (by omega)
  have e4 : k * (-n) = -(k * n) := Int.mul_neg _ _
  refine ⟨by omega, by omega, ?_, ?_⟩
  · unfold nearF
    exact Int.le_ediv_of_mul_le (by omega) (by omega)
  · unfold nearF
    have : (2 * (k * w) + n) / (2 * n) < 1001 := Int.ediv_lt_of_lt_mul (by omega) (by omega)
    omega
--## d
def marksN (a b c d n : Int) : List (Int × Int) := (List.range (n.toNat + 1)).map fun k : Nat => (a + nearF ((k : Int) * (c - a)) n, b + nearF ((k : Int) * (d - b)) n)
--## d
theorem wrapI16 (x : Int) (h1 : -32768 ≤ x) (h2 : x ≤ 32767) : IntKind.i16.wrap x = x := by
  unfold IntKind.wrap
  simp [IntKind.signed, IntKind.bits]
  omega
--## d
theorem twoC (W : World) (x y : Value) (t : TypeId) (g : Nat) (hg : g = W.heap.size) : ∀ (j : Nat) (u : Value), [x, y][j]? = some u → (W.alloc (.cells #[x, y] t)).cell? ((⟨g, 0, none⟩ : Addr).add j) = some u := by
  intro j u h
  subst hg
  rw [Addr.add_mid]
  match j, h with
  | 0, h => simp at h; subst h; exact World.cell?_alloc_at _ _ _ _ rfl
  | 1, h => simp at h; subst h; exact World.cell?_alloc_at _ _ _ _ rfl
--## d
theorem m_one (x y : Int) : ∀ u ∈ [Value.int .i16 x, Value.int .i16 y], u.oneCell' = true := by
  intro u hu
  simp at hu
  rcases hu with rfl | rfl <;> rfl
--## d
theorem below_appM {W wr w1 : World} {v : Value} {e n m : Nat} {xs : List Value} {o : Obj} (hB : Below W.heap.size W wr) (hown : wr.ownsRow W.heap.size e n v m xs) (hg : (wr.alloc o).grownBy w1 v.ownBlock) : Below W.heap.size W w1 := by
  refine (below_alloc hB).grown hg (Nat.le_trans hB.size (by simp)) (fun k hk => ?_)
  exact (hown.lt k hk).1
--## d
theorem rls_owns {w : World} {base E n m : Nat} {v : Value} {xs : List Value} {rs : List (List Value)} (h : w.ownsRow base E m v n xs) (hx : xs = rs.flatten) (hn : rs.length = n) (hr : ∀ r ∈ rs, r.length = m) : Rls m w v rs := by
  have hc := fun g hg => h.cells (g := g) hg
  obtain ⟨hl, h'⟩ := h
  rcases h' with ⟨rfl, rfl⟩ | ⟨g, cap, cur, rfl, hb, hg, h1, h2, h3, h4⟩
  · have : rs = [] := List.eq_nil_of_length_eq_zero hn
    subst this
    exact ⟨none, 0, rfl, fun j r hr => by simp at hr⟩
  · refine ⟨some ⟨g, 0, none⟩, cap, by rw [hn], fun j r hj => ⟨⟨g, 0, none⟩, rfl, (Array.getElem?_eq_some_iff.1 hg).1, fun k x hk => ?_⟩⟩
    have := hc g rfl (j * m + k) x (by rw [hx]; exact flatten_get j hr hj k x hk)
    rw [Addr.add_mid] at this ⊢
    rw [Addr.add_mid]
    rw [show 0 + j * m + k = 0 + (j * m + k) by omega]
    exact this
--## d
theorem rM_row {ms : List (Int × Int)} : ∀ r ∈ rM ms, r.length = 2 := by
  intro r hr
  simp only [rM, List.mem_map] at hr
  obtain ⟨t, _, rfl⟩ := hr
  rfl
--## d
theorem marksN_len (a b c d n : Int) : (marksN a b c d n).length = n.toNat + 1 := by simp [marksN]
--## d
theorem marksN_get (a b c d n : Int) (i : Nat) (h : i < n.toNat + 1) : (marksN a b c d n)[i]? = some (a + nearF ((i : Int) * (c - a)) n, b + nearF ((i : Int) * (d - b)) n) := by
  unfold marksN
  rw [List.getElem?_map, List.getElem?_range h]
  rfl
--## d
theorem rls_one {w : World} {g : Nat} {a b : Int} {k : Nat} (hg : g < w.heap.size) (h0 : w.cell? ⟨g, 0, none⟩ = some (.int .i16 a)) (h1 : w.cell? ⟨g, 1, none⟩ = some (.int .i16 b)) : Rls 2 w (.slice (some ⟨g, 0, none⟩) 1 k) (rM [(a, b)]) := by
  refine ⟨some ⟨g, 0, none⟩, k, rfl, fun j r hr => ⟨⟨g, 0, none⟩, rfl, hg, fun i x hx => ?_⟩⟩
  match j, hr with
  | 0, hr =>
    simp [rM] at hr; subst hr
    match i, hx with
    | 0, hx => simp at hx; subst hx; exact h0
    | 1, hx => simp at hx; subst hx; exact h1
--## d
theorem infoM : (Try.prog.info? 59).map (fun i => (i.zero, i.size, i.bytes)) = some (some (mk 0 0), 2, 4) := by kernel_rfl
--## d
end Go.Proofs.Yteckjpdfecgljaa
