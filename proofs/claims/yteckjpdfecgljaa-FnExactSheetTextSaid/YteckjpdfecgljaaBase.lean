/- What the contracts say: floats as canonical values, points, and worlds below which nothing has turned. -/
import Derived.Test.YteckjpdfecgljaaProg
import Derived.Lib.Hide
import Derived.KernelRfl
import Derived.Deep.RegionHeld3
import Derived.Test.YteckjpdfecgljaaFloB
namespace Go.Proofs.Yteckjpdfecgljaa
open Go.RowKit Go.Flo

abbrev V := Option Nat
def c32 (x : Nat) : V := kcv .f32 x
def c64 (x : Nat) : V := kcv .f64 x
def add (x y : V) : V := vop .add .f32 x y
def sub (x y : V) : V := vop .sub .f32 x y
def mul (x y : V) : V := vop .mul .f32 x y
def div (x y : V) : V := vop .quo .f32 x y
abbrev V3 := V × V × V

/-- a call returns such a value, and nothing that was there has turned -/
def Gives (rel : Value → Prop) (w : World) (e : Ending) (w' : World) : Prop := ∃ v, e = .returned v ∧ rel v ∧ Below w.heap.size w w'
/-- likewise, and the world is as it was -/
def Same (rel : Value → Prop) (w : World) (e : Ending) (w' : World) : Prop := ∃ v, e = .returned v ∧ rel v ∧ w = w'
/-- likewise, but for what was drawn -/
def Drew' (rel : Value → Prop) (w : World) (e : Ending) (w' : World) : Prop := ∃ v n, e = .returned v ∧ rel v ∧ w.drewN n = w'
def isF (x : V) (v : Value) : Prop := ∃ r, v = .float .f32 r ∧ kcv .f32 r = x
def isP (p : V3) (v : Value) : Prop := ∃ r0 r1 r2, v = .agg #[.float .f32 r0, .float .f32 r1, .float .f32 r2] ∧ kcv .f32 r0 = p.1 ∧ kcv .f32 r1 = p.2.1 ∧ kcv .f32 r2 = p.2.2
def isB (b : Bool) (v : Value) : Prop := v = .bool b
def cp (x0 x1 x2 : Nat) : V3 := (kcv .f32 x0, kcv .f32 x1, kcv .f32 x2)

theorem bcell {W w1 : World} (hb : Below W.heap.size W w1) : (∀ b o, b < W.heap.size → w1.cell? ⟨b, o, none⟩ = W.cell? ⟨b, o, none⟩) ∧ (∀ b o, b < W.heap.size → w1.frozen? ⟨b, o, none⟩ = W.frozen? ⟨b, o, none⟩) :=
  ⟨fun b o h => hb.cell (p := ⟨b, o, none⟩) h, fun b o h => hb.frozen (p := ⟨b, o, none⟩) h⟩
theorem below_step {w W w' : World} (hb : Below W.heap.size W w') (h : Below w.heap.size w W) : Below w.heap.size w w' := h.trans (hb.mono h.size)
theorem below_alloc {w W : World} {o : Obj} (h : Below w.heap.size w W) : Below w.heap.size w (W.alloc o) := h.alloc h.size o
theorem below_set {w W : World} {p : Addr} {v : Value} (h : Below w.heap.size w W) (hp : w.heap.size ≤ p.block) : Below w.heap.size w (W.setCell p v) := h.setCell hp v
theorem worldAny {P : Program} {c : Code} {Q : Exit → Act → World → Prop} {a : Act} {W : World} (S : World → Prop) (h : S W) (k : ∀ w1, S w1 → c.wp P Q a w1) : c.wp P Q a W := k W h

@[go_sem] theorem run_not {P : Program} {w : World} (x : Bool) : (Op.unary .not (.bool x)).run P w = .ok (.bool (!x)) w := rfl

theorem World.setCell_drewN' (w : World) (n : Nat) (a : Addr) (v : Value) : (w.drewN n).setCell a v = (w.setCell a v).drewN n := by
  unfold World.setCell World.drewN; split <;> rfl
@[go_sem] theorem alloc_drewN {w : World} {n : Nat} {o : Obj} : (w.drewN n).alloc o = (w.alloc o).drewN n := rfl
@[go_sem] theorem setCell_drewN {w : World} {n : Nat} {a : Addr} {v : Value} : (w.drewN n).setCell a v = (w.setCell a v).drewN n := World.setCell_drewN' _ _ _ _

/-! comparing -/
theorem ord32 (a b : Nat) : vord FloatKind.f32.format (kcv .f32 a) (kcv .f32 b) = FloatKind.f32.format.order a b := (vord_cv (good .f32) a b).symm
theorem ord64 (a b : Nat) : vord FloatKind.f64.format (kcv .f64 a) (kcv .f64 b) = FloatKind.f64.format.order a b := (vord_cv (good .f64) a b).symm
def lt (x y : V) : Bool := vord FloatKind.f32.format x y == some .lt
def le (x y : V) : Bool := vord FloatKind.f32.format x y == some .lt || vord FloatKind.f32.format x y == some .eq
def gt (x y : V) : Bool := vord FloatKind.f32.format x y == some .gt
def ge (x y : V) : Bool := vord FloatKind.f32.format x y == some .gt || vord FloatKind.f32.format x y == some .eq
def eqf (x y : V) : Bool := vord FloatKind.f32.format x y == some .eq
def plainV (x : V) : Bool := ge x (c32 3379831808) && le x (c32 1232348160)
def finV (x : V) : Bool := ge x (c32 4286578687) && le x (c32 2139095039)
def plainP (p : V3) : Bool := plainV p.1 && plainV p.2.1 && plainV p.2.2
def finP (p : V3) : Bool := finV p.1 && finV p.2.1 && finV p.2.2

theorem cp_eq {r0 r1 r2 : Nat} {p : V3} (h0 : kcv .f32 r0 = p.1) (h1 : kcv .f32 r1 = p.2.1) (h2 : kcv .f32 r2 = p.2.2) : cp r0 r1 r2 = p := by
  unfold cp; rw [h0, h1, h2]
theorem isP.out {p : V3} {v : Value} (h : isP p v) : ∃ r0 r1 r2, v = .agg #[.float .f32 r0, .float .f32 r1, .float .f32 r2] ∧ cp r0 r1 r2 = p := by
  obtain ⟨r0, r1, r2, h, h0, h1, h2⟩ := h
  exact ⟨r0, r1, r2, h, cp_eq h0 h1 h2⟩
theorem isP_mk {r0 r1 r2 : Nat} {p : V3} (h : cp r0 r1 r2 = p) : isP p (.agg #[.float .f32 r0, .float .f32 r1, .float .f32 r2]) := by
  subst h; exact ⟨r0, r1, r2, rfl, rfl, rfl, rfl⟩
end Go.Proofs.Yteckjpdfecgljaa
