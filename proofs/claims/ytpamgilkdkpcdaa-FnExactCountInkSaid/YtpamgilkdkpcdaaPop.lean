--## pure
/- Mathematics: the number of bits that are set, byte by byte. -/
import Derived.Laws.BitsAllLaws
namespace Go.Pop
def pc : Nat → Nat → Nat
  | 0, _ => 0
  | f + 1, x => x % 2 + pc f (x / 2)
theorem pc_zero (f : Nat) : pc f 0 = 0 := by
  induction f with
  | zero => rfl
  | succ f ih => simp [pc, ih]
theorem pc_add (j k x : Nat) : pc (j + k) x = pc j x + pc k (x / 2 ^ j) := by
  induction j generalizing x with
  | zero => simp [pc]
  | succ j ih =>
    rw [Nat.add_right_comm j 1 k]
    simp only [pc]
    rw [ih, Nat.div_div_eq_div_mul, Nat.pow_succ, Nat.mul_comm 2]
    omega
theorem pc_mod (j x m : Nat) : pc j (x % 2 ^ (j + m)) = pc j x := by
  induction j generalizing x m with
  | zero => rfl
  | succ j ih =>
    simp only [pc]
    have e : (x % 2 ^ (j + 1 + m)) / 2 = (x / 2) % 2 ^ (j + m) := by
      rw [show j + 1 + m = (j + m) + 1 by omega, Nat.pow_succ, Nat.mul_comm, Nat.mod_mul_right_div_self]
    have e2 : (x % 2 ^ (j + 1 + m)) % 2 = x % 2 := by
      rw [show j + 1 + m = (j + m) + 1 by omega, Nat.pow_succ, Nat.mul_comm, Nat.mod_mul_right_mod]
    rw [e, e2, ih]
def M (c : Nat) : Nat → Nat
  | 0 => 0
  | n + 1 => c + 256 * M c n
theorem and_split (a b c d : Nat) (ha : a < 256) (hc : c < 256) : (a + 256 * b) &&& (c + 256 * d) = (a &&& c) + 256 * (b &&& d) := by
  have e1 : ((a + 256 * b) &&& (c + 256 * d)) % 2 ^ 8 = a &&& c := by
    rw [Nat.and_mod_two_pow]
    congr 1 <;> omega
  have e2 : ((a + 256 * b) &&& (c + 256 * d)) / 2 ^ 8 = b &&& d := by
    rw [Nat.and_div_two_pow]
    congr 1 <;> omega
  omega
def s1 (n x : Nat) : Nat := (x / 2 &&& M 85 n) + (x &&& M 85 n)
def s2 (n x : Nat) : Nat := (x / 4 &&& M 51 n) + (x &&& M 51 n)
def s3 (n x : Nat) : Nat := (x / 16 + x) &&& M 15 n
def b1 (a : Nat) : Nat := (a / 2 &&& 85) + (a &&& 85)
def b2 (a : Nat) : Nat := (a / 4 &&& 51) + (a &&& 51)
def b3 (a : Nat) : Nat := (a / 16 + a) &&& 15
theorem f1 : ∀ (a : Fin 256) (k : Fin 2), ((a.val / 2 + 128 * k.val) &&& 85) = (a.val / 2 &&& 85) := by decide +kernel
theorem f2 : ∀ (a : Fin 256) (k : Fin 4), ((a.val / 4 + 64 * k.val) &&& 51) = (a.val / 4 &&& 51) := by decide +kernel
theorem g1 : ∀ a : Fin 256, b1 a.val < 256 := by decide +kernel
theorem g3 : ∀ a : Fin 256, b2 (b1 a.val) ≤ 68 ∧ b2 (b1 a.val) % 16 ≤ 4 ∧ b3 (b2 (b1 a.val)) = pc 8 a.val ∧ pc 8 a.val ≤ 8 := by decide +kernel
theorem f3 : ∀ (a : Fin 69) (k : Fin 5), ((a.val / 16 + 16 * k.val + a.val) &&& 15) = b3 a.val := by decide +kernel
theorem s1_byte (n a b : Nat) (ha : a < 256) : s1 (n + 1) (a + 256 * b) = b1 a + 256 * s1 n b := by
  unfold s1 b1
  have e : (a + 256 * b) / 2 = (a / 2 + 128 * (b % 2)) + 256 * (b / 2) := by omega
  rw [e]
  simp only [M]
  rw [and_split _ _ _ _ (by omega) (by omega), and_split _ _ _ _ ha (by omega)]
  have := f1 ⟨a, ha⟩ ⟨b % 2, by omega⟩
  simp only at this
  rw [this]
  omega
theorem s2_byte (n a b : Nat) (ha : a < 256) : s2 (n + 1) (a + 256 * b) = b2 a + 256 * s2 n b := by
  unfold s2 b2
  have e : (a + 256 * b) / 4 = (a / 4 + 64 * (b % 4)) + 256 * (b / 4) := by omega
  rw [e]
  simp only [M]
  rw [and_split _ _ _ _ (by omega) (by omega), and_split _ _ _ _ ha (by omega)]
  have := f2 ⟨a, ha⟩ ⟨b % 4, by omega⟩
  simp only at this
  rw [this]
  omega
theorem s3_byte (n a b : Nat) (ha : a ≤ 68) (hb : b % 16 ≤ 4) : s3 (n + 1) (a + 256 * b) = b3 a + 256 * s3 n b := by
  unfold s3
  have e : (a + 256 * b) / 16 + (a + 256 * b) = (a / 16 + 16 * (b % 16) + a) + 256 * (b / 16 + b) := by omega
  rw [e]
  simp only [M]
  rw [and_split _ _ _ _ (by omega) (by omega)]
  have := f3 ⟨a, by omega⟩ ⟨b % 16, by omega⟩
  simp only at this
  rw [this]
def g (n x : Nat) : Nat := s3 n (s2 n (s1 n x))
theorem low (n x : Nat) : s2 n (s1 n x) % 16 ≤ 4 := by
  cases n with
  | zero => simp [s1, s2, M]
  | succ n =>
    have e : x = x % 256 + 256 * (x / 256) := by omega
    rw [e, s1_byte _ _ _ (by omega), s2_byte _ _ _ (g1 ⟨x % 256, by omega⟩)]
    have h3 : b2 (b1 (x % 256)) % 16 ≤ 4 := (g3 ⟨x % 256, by omega⟩).2.1
    show (b2 (b1 (x % 256)) + _) % 16 ≤ 4
    omega
theorem g_byte (n a b : Nat) (ha : a < 256) : g (n + 1) (a + 256 * b) = pc 8 a + 256 * g n b := by
  unfold g
  have h := g3 ⟨a, ha⟩
  simp only at h
  rw [s1_byte _ _ _ ha, s2_byte _ _ _ (g1 ⟨a, ha⟩), s3_byte _ _ _ h.1 (low n b), h.2.2.1]
theorem g_zero (x : Nat) : g 0 x = 0 := by simp [g, s3, M]
theorem g_step (n x : Nat) : g (n + 1) x = pc 8 (x % 256) + 256 * g n (x / 256) := by
  have e : x = x % 256 + 256 * (x / 256) := by omega
  conv => lhs; rw [e]
  exact g_byte n _ _ (by omega)
theorem pc8_le (a : Nat) : pc 8 (a % 256) ≤ 8 := (g3 ⟨a % 256, by omega⟩).2.2.2
theorem pc_step (k x : Nat) : pc (8 + k) x = pc 8 (x % 256) + pc k (x / 256) := by
  rw [pc_add, ← pc_mod 8 x 0]
theorem dv (d q : Nat) (h : d < 256) : (d + 256 * q) / 256 = q := by omega
theorem l1 (d0 d1 d2 d3 d4 d5 d6 d7 : Nat) : ((d0) + 256 * ((d1) + 256 * ((d2) + 256 * ((d3) + 256 * ((d4) + 256 * ((d5) + 256 * ((d6) + 256 * (d7)))))))) + ((d1) + 256 * ((d2) + 256 * ((d3) + 256 * ((d4) + 256 * ((d5) + 256 * ((d6) + 256 * (d7))))))) = (d0 + d1) + 256 * ((d1 + d2) + 256 * ((d2 + d3) + 256 * ((d3 + d4) + 256 * ((d4 + d5) + 256 * ((d5 + d6) + 256 * ((d6 + d7) + 256 * (d7))))))) := by omega
theorem l2 (d0 d1 d2 d3 d4 d5 d6 d7 : Nat) : ((d0 + d1) + 256 * ((d1 + d2) + 256 * ((d2 + d3) + 256 * ((d3 + d4) + 256 * ((d4 + d5) + 256 * ((d5 + d6) + 256 * ((d6 + d7) + 256 * (d7)))))))) + ((d2 + d3) + 256 * ((d3 + d4) + 256 * ((d4 + d5) + 256 * ((d5 + d6) + 256 * ((d6 + d7) + 256 * (d7)))))) = (d0 + d1 + d2 + d3) + 256 * ((d1 + d2 + d3 + d4) + 256 * ((d2 + d3 + d4 + d5) + 256 * ((d3 + d4 + d5 + d6) + 256 * ((d4 + d5 + d6 + d7) + 256 * ((d5 + d6 + d7) + 256 * ((d6 + d7) + 256 * (d7))))))) := by omega
theorem l3 (d0 d1 d2 d3 d4 d5 d6 d7 : Nat) : ((d0 + d1 + d2 + d3) + 256 * ((d1 + d2 + d3 + d4) + 256 * ((d2 + d3 + d4 + d5) + 256 * ((d3 + d4 + d5 + d6) + 256 * ((d4 + d5 + d6 + d7) + 256 * ((d5 + d6 + d7) + 256 * ((d6 + d7) + 256 * (d7)))))))) + ((d4 + d5 + d6 + d7) + 256 * ((d5 + d6 + d7) + 256 * ((d6 + d7) + 256 * (d7)))) = (d0 + d1 + d2 + d3 + d4 + d5 + d6 + d7) + 256 * ((d1 + d2 + d3 + d4 + d5 + d6 + d7) + 256 * ((d2 + d3 + d4 + d5 + d6 + d7) + 256 * ((d3 + d4 + d5 + d6 + d7) + 256 * ((d4 + d5 + d6 + d7) + 256 * ((d5 + d6 + d7) + 256 * ((d6 + d7) + 256 * (d7))))))) := by omega
theorem sums (d0 d1 d2 d3 d4 d5 d6 d7 : Nat) (h0 : d0 ≤ 8) (h1 : d1 ≤ 8) (h2 : d2 ≤ 8) (h3 : d3 ≤ 8) (h4 : d4 ≤ 8) (h5 : d5 ≤ 8) (h6 : d6 ≤ 8) (h7 : d7 ≤ 8) (x y z t : Nat)
    (hx : x = (d0) + 256 * ((d1) + 256 * ((d2) + 256 * ((d3) + 256 * ((d4) + 256 * ((d5) + 256 * ((d6) + 256 * (d7))))))))
    (hy : y = x + x / 256) (hz : z = y + y / 65536) (ht : t = z + z / 4294967296) :
    t % 128 = d0 + d1 + d2 + d3 + d4 + d5 + d6 + d7 ∧ t < 9223372036854775808 := by
  have y0 : d0 + d1 < 256 := by clear hx hy hz ht; omega
  have y1 : d1 + d2 < 256 := by clear hx hy hz ht; omega
  have z0 : d0 + d1 + d2 + d3 < 256 := by clear hx hy hz ht; omega
  have z1 : d1 + d2 + d3 + d4 < 256 := by clear hx hy hz ht; omega
  have z2 : d2 + d3 + d4 + d5 < 256 := by clear hx hy hz ht; omega
  have z3 : d3 + d4 + d5 + d6 < 256 := by clear hx hy hz ht; omega
  have ey : y = (d0 + d1) + 256 * ((d1 + d2) + 256 * ((d2 + d3) + 256 * ((d3 + d4) + 256 * ((d4 + d5) + 256 * ((d5 + d6) + 256 * ((d6 + d7) + 256 * (d7))))))) := by
    rw [hy, hx, dv d0 _ (by clear hx hy hz ht; omega)]
    exact l1 d0 d1 d2 d3 d4 d5 d6 d7
  have ez : z = (d0 + d1 + d2 + d3) + 256 * ((d1 + d2 + d3 + d4) + 256 * ((d2 + d3 + d4 + d5) + 256 * ((d3 + d4 + d5 + d6) + 256 * ((d4 + d5 + d6 + d7) + 256 * ((d5 + d6 + d7) + 256 * ((d6 + d7) + 256 * (d7))))))) := by
    rw [hz, ey, show (65536 : Nat) = 256 * 256 from rfl, ← Nat.div_div_eq_div_mul, dv _ _ y0, dv _ _ y1]
    exact l2 d0 d1 d2 d3 d4 d5 d6 d7
  have et : t = (d0 + d1 + d2 + d3 + d4 + d5 + d6 + d7) + 256 * ((d1 + d2 + d3 + d4 + d5 + d6 + d7) + 256 * ((d2 + d3 + d4 + d5 + d6 + d7) + 256 * ((d3 + d4 + d5 + d6 + d7) + 256 * ((d4 + d5 + d6 + d7) + 256 * ((d5 + d6 + d7) + 256 * ((d6 + d7) + 256 * (d7))))))) := by
    rw [ht, ez, show (4294967296 : Nat) = 256 * 256 * 256 * 256 from rfl, ← Nat.div_div_eq_div_mul, ← Nat.div_div_eq_div_mul, ← Nat.div_div_eq_div_mul, dv _ _ z0, dv _ _ z1, dv _ _ z2, dv _ _ z3]
    exact l3 d0 d1 d2 d3 d4 d5 d6 d7
  clear hx hy hz ht ey ez y0 y1 z0 z1 z2 z3
  have e0 : d0 + d1 + d2 + d3 + d4 + d5 + d6 + d7 = d0 + d1 + d2 + d3 + d4 + d5 + d6 + d7 := by clear et; omega
  have hq : ∃ q, t = (d0 + d1 + d2 + d3 + d4 + d5 + d6 + d7) + 256 * q ∧ q < 36028797018963968 := ⟨_, by rw [et, e0], by clear et e0; omega⟩
  obtain ⟨q, hq, hl⟩ := hq
  clear et e0
  constructor <;> omega
theorem ex (n k : Nat) (x : Nat) : ∃ d x', d ≤ 8 ∧ g (n + 1) x = d + 256 * g n x' ∧ pc (8 + k) x = d + pc k x' :=
  ⟨pc 8 (x % 256), x / 256, pc8_le x, g_step n x, pc_step k x⟩
theorem swar (x y z t : Nat) (hy : y = g 8 x + g 8 x / 256) (hz : z = y + y / 65536) (ht : t = z + z / 4294967296) : t % 128 = pc 64 x ∧ t < 9223372036854775808 ∧ pc 64 x ≤ 64 := by
  obtain ⟨d0, x0, h0, e0, p0⟩ := ex 7 56 x
  obtain ⟨d1, x1, h1, e1, p1⟩ := ex 6 48 x0
  obtain ⟨d2, x2, h2, e2, p2⟩ := ex 5 40 x1
  obtain ⟨d3, x3, h3, e3, p3⟩ := ex 4 32 x2
  obtain ⟨d4, x4, h4, e4, p4⟩ := ex 3 24 x3
  obtain ⟨d5, x5, h5, e5, p5⟩ := ex 2 16 x4
  obtain ⟨d6, x6, h6, e6, p6⟩ := ex 1 8 x5
  obtain ⟨d7, x7, h7, e7, p7⟩ := ex 0 0 x6
  have E := e0
  rw [e1, e2, e3, e4, e5, e6, e7, g_zero] at E
  have P : pc 64 x = d0 + d1 + d2 + d3 + d4 + d5 + d6 + d7 := by
    rw [show pc 64 x = pc (8 + 56) x from rfl, p0, show pc 56 x0 = pc (8 + 48) x0 from rfl, p1, show pc 48 x1 = pc (8 + 40) x1 from rfl, p2, show pc 40 x2 = pc (8 + 32) x2 from rfl, p3, show pc 32 x3 = pc (8 + 24) x3 from rfl, p4, show pc 24 x4 = pc (8 + 16) x4 from rfl, p5, show pc 16 x5 = pc (8 + 8) x5 from rfl, p6, show pc 8 x6 = pc (8 + 0) x6 from rfl, p7]
    simp only [pc, Nat.add_assoc, Nat.add_zero]
  clear e0 e1 e2 e3 e4 e5 e6 e7 p0 p1 p2 p3 p4 p5 p6 p7
  simp only [Nat.mul_zero, Nat.add_zero] at E
  have H := sums d0 d1 d2 d3 d4 d5 d6 d7 h0 h1 h2 h3 h4 h5 h6 h7 (g 8 x) y z t E hy hz ht
  rw [P]
  clear P E hy hz ht
  exact ⟨H.1, H.2, by omega⟩
end Go.Pop

namespace Go.Pop
open Go
def q1 (z : Int) : Int := IntKind.u64.wrap (bits BinOp.and IntKind.u64 (z / 2) 6148914691236517205 + bits BinOp.and IntKind.u64 z 6148914691236517205)
def q2 (z : Int) : Int := IntKind.u64.wrap (bits BinOp.and IntKind.u64 (z / 4) 3689348814741910323 + bits BinOp.and IntKind.u64 z 3689348814741910323)
def q3 (z : Int) : Int := bits BinOp.and IntKind.u64 (IntKind.u64.wrap (z / 16 + z)) 1085102592571150095
def q4 (z : Int) : Int := IntKind.u64.wrap (z + z / 256)
def q5 (z : Int) : Int := IntKind.u64.wrap (z + z / 65536)
def q6 (z : Int) : Int := IntKind.u64.wrap (z + z / 4294967296)
theorem M1 : M 85 8 = 6148914691236517205 := by decide
theorem M2 : M 51 8 = 3689348814741910323 := by decide
theorem M3 : M 15 8 = 1085102592571150095 := by decide
theorem wrapn (n : Nat) (h : n < 18446744073709551616) : IntKind.u64.wrap (n : Int) = (n : Int) := by
  rw [IntKind.wrap_u64]
  omega
theorem q1_nat (n : Nat) (h : n < 18446744073709551616) : q1 n = (s1 8 n : Nat) ∧ s1 8 n ≤ 12297829382473034410 := by
  unfold q1 s1
  rw [M1]
  have a1 : n / 2 &&& 6148914691236517205 ≤ 6148914691236517205 := Nat.and_le_right
  have a2 : n &&& 6148914691236517205 ≤ 6148914691236517205 := Nat.and_le_right
  have e1 := u64_and_nat (n / 2) 6148914691236517205 (by omega) (by omega)
  have e2 := u64_and_nat n 6148914691236517205 h (by omega)
  rw [show ((n : Int) / 2) = ((n / 2 : Nat) : Int) by omega]
  rw [show bits BinOp.and IntKind.u64 ((n / 2 : Nat) : Int) 6148914691236517205 = _ from e1, show bits BinOp.and IntKind.u64 (n : Int) 6148914691236517205 = _ from e2]
  rw [← Int.natCast_add, wrapn _ (by omega)]
  exact ⟨rfl, by omega⟩
theorem q2_nat (n : Nat) (h : n < 18446744073709551616) : q2 n = (s2 8 n : Nat) ∧ s2 8 n ≤ 7378697629483820646 := by
  unfold q2 s2
  rw [M2]
  have a1 : n / 4 &&& 3689348814741910323 ≤ 3689348814741910323 := Nat.and_le_right
  have a2 : n &&& 3689348814741910323 ≤ 3689348814741910323 := Nat.and_le_right
  have e1 := u64_and_nat (n / 4) 3689348814741910323 (by omega) (by omega)
  have e2 := u64_and_nat n 3689348814741910323 h (by omega)
  rw [show ((n : Int) / 4) = ((n / 4 : Nat) : Int) by omega]
  rw [show bits BinOp.and IntKind.u64 ((n / 4 : Nat) : Int) 3689348814741910323 = _ from e1, show bits BinOp.and IntKind.u64 (n : Int) 3689348814741910323 = _ from e2]
  rw [← Int.natCast_add, wrapn _ (by omega)]
  exact ⟨rfl, by omega⟩
theorem q3_nat (n : Nat) (h : n ≤ 7378697629483820646) : q3 n = (s3 8 n : Nat) ∧ s3 8 n ≤ 1085102592571150095 := by
  unfold q3 s3
  rw [M3]
  have a1 : (n / 16 + n) &&& 1085102592571150095 ≤ 1085102592571150095 := Nat.and_le_right
  have e1 := u64_and_nat (n / 16 + n) 1085102592571150095 (by omega) (by omega)
  rw [show ((n : Int) / 16 + (n : Int)) = ((n / 16 + n : Nat) : Int) by omega, wrapn _ (by omega)]
  exact ⟨e1, a1⟩
theorem q456 (n : Nat) (h : n ≤ 1085102592571150095) : ∃ y z t : Nat, q4 n = (y : Int) ∧ q5 y = (z : Int) ∧ q6 z = (t : Int) ∧ y = n + n / 256 ∧ z = y + y / 65536 ∧ t = z + z / 4294967296 := by
  refine ⟨_, _, _, ?_, ?_, ?_, rfl, rfl, rfl⟩
  · unfold q4
    rw [show ((n : Int) + (n : Int) / 256) = ((n + n / 256 : Nat) : Int) by omega, wrapn _ (by omega)]
  · unfold q5
    generalize hy : n + n / 256 = y
    rw [show ((y : Int) + (y : Int) / 65536) = ((y + y / 65536 : Nat) : Int) by omega, wrapn _ (by omega)]
  · unfold q6
    generalize hy : n + n / 256 = y
    generalize hz : y + y / 65536 = z
    rw [show ((z : Int) + (z : Int) / 4294967296) = ((z + z / 4294967296 : Nat) : Int) by omega, wrapn _ (by omega)]
theorem allq (n : Nat) (h : n < 18446744073709551616) : ∃ t : Nat, q6 (q5 (q4 (q3 (q2 (q1 n))))) = (t : Int) ∧ t % 128 = pc 64 n ∧ t < 9223372036854775808 ∧ pc 64 n ≤ 64 := by
  obtain ⟨e1, b1⟩ := q1_nat n h
  obtain ⟨e2, b2⟩ := q2_nat (s1 8 n) (by omega)
  obtain ⟨e3, b3⟩ := q3_nat (s2 8 (s1 8 n)) b2
  obtain ⟨y, z, t, h4, h5, h6, k4, k5, k6⟩ := q456 _ b3
  refine ⟨t, by rw [e1, e2, e3, h4, h5, h6], swar n y z t k4 k5 k6⟩
end Go.Pop
