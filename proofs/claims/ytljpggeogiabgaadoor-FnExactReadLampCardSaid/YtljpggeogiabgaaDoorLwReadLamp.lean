/- The law FnExactReadLamp: for every input the function ReadLamp answers as its model, and the law returns true. Condition: two tables of the library, which are not read, hold what the program's text lays there (the card ties them). -/
import Derived.Test.YtljpggeogiabgaaDoorOpen
import Derived.Test.YtljpggeogiabgaaDoorTxtN
import Derived.Test.YtljpggeogiabgaaDoorSxK
import Derived.Test.YtljpggeogiabgaaDoorSxS
import Derived.Test.YtljpggeogiabgaaDoorLawA
import Derived.Test.YtljpggeogiabgaaDoorTie
import Derived.Test.YtljpggeogiabgaaDoorCards
import Derived.Deep.DeepHandedRow
import Derived.Lay
import Derived.LaidMore
import Derived.SevenTiedAt
namespace Go.Sx
open Go Go.RowKit Go.Flo Go.Mem Go.Proofs.YtljpggeogiabgaaDoor
noncomputable section
/-- a function that answers false on all ways -/
def aloneF (Pm : Program) (sums : List (FuncId × SumF)) (fuel depth : Nat) (f : FuncId) (args : List A) (M : Mm) (nid : Nat) (top : Nat) (t : Tb) : Bool :=
  ((callee Pm (sumsOf sums) drawn fuel depth f args M t nid top).bind fun r => (truthA r.2.2.2 r.1).bind fun b => .ok b.1).all fun x => !x
theorem aloneF_sound {env : Nat → Sc} {Pm : Program} {sums : List (FuncId × SumF)} (hm : Pm.follows .mixedOrders = true) (hs : ∀ x ∈ sums, SumOk1 env Pm x.1 x.2) (hse : ∀ x ∈ sums, SumExt1 env x.2) {fuel depth : Nat} {f : FuncId} {args : List A} {M : Mm} {nid top : Nat} {t : Tb}
    (h : aloneF Pm sums fuel depth f args M nid top t = true) (hw : WF t) (hf : FactsOk env t.fs t) :
    ∀ (ms : Nat → Nat) (K : Nat → Prop) (vs : List Value) (W : World), ReadOk (mkE env t ms K) W M → F2 (Ar (mkE env t ms K)) args vs → (∀ i, nid ≤ i → i < top → ¬ K i) → Calls Pm f vs.toArray W (Gives (isB false) W) := by
  unfold aloneF at h
  obtain ⟨x, hx, hp⟩ := all_sel (env := env) h
  obtain ⟨r, hr, hx⟩ := Res.bind_ok hx
  obtain ⟨b, hb, hx⟩ := Res.bind_ok hx
  cases hx
  have e : b.1 = false := by simpa using hp
  rw [← e]
  exact bool_answers hm hs hse hr hb hw hf
end
end Go.Sx
namespace Go.Proofs.YtljpggeogiabgaaDoor
open Go.ChangeShapes Go.WideShapes Go.ChangeAt Go.RowKit Go.Flo Go.Mem Go.Sx
set_option linter.unusedSimpArgs false
set_option linter.unusedVariables false
noncomputable def lamCells : List C := [.f32 0, .f32 1, .f32 2, .bit 3 true, .f32 4]
structure CkLam (t : Tb) : Prop where
  out : bothB Tryd.prog sums 60 30 18 [.p (.one (.ptr 0 0))] [(0, lamCells)] 1 22 [.p (.agg lamCells)] [] 0 topN t = true
set_option maxRecDepth 100000 in
set_option maxHeartbeats 100000000 in
theorem checkedLam : CkLam ⟨5, vars 5, [], []⟩ := ⟨by kernel_rfl⟩
noncomputable def lamT : Tb := heard (ptNd 0 1 2 ⟨5, vars 5, [], []⟩).2 (ptNd 0 1 2 ⟨5, vars 5, [], []⟩).1 false
structure CkLamF : Prop where
  out : aloneF Tryd.prog sums 60 30 18 [.p (.one (.ptr 0 0))] [(0, lamCells)] 1 topN lamT = true
set_option maxRecDepth 100000 in
set_option maxHeartbeats 100000000 in
theorem checkedLamF : CkLamF := ⟨by kernel_rfl⟩
theorem lamC (x0 x1 x2 x4 : Nat) (s : Bool) : ∀ (ms : Nat → Nat) (K : Nat → Prop), F2 (Cr (mkE (envOf [.f (kcv .f32 x0), .f (kcv .f32 x1), .f (kcv .f32 x2), .b s, .f (kcv .f32 x4)]) ⟨5, vars 5, [], []⟩ ms K)) lamCells [.float .f32 x0, .float .f32 x1, .float .f32 x2, .bool s, .float .f32 x4] := fun ms K =>
  .cons (var_f32 rfl rfl) (.cons (var_f32 rfl rfl) (.cons (var_f32 rfl rfl) (.cons (var_bool rfl rfl) (.cons (var_f32 rfl rfl) .nil))))
theorem lampBoth (x0 x1 x2 x4 : Nat) (s : Bool) : ∃ b : Bool, (∀ (W : World) (g : Nat), g < W.heap.size → (∀ k x, [.float .f32 x0, .float .f32 x1, .float .f32 x2, .bool s, .float .f32 x4][k]? = some x → W.cell? ⟨g, k, none⟩ = some x) → Calls Tryd.prog 18 #[.pointer (some ⟨g, 0, none⟩)] W (Gives (isB b) W)) ∧
    (∀ W, Calls Tryd.prog 22 #[.agg #[.float .f32 x0, .float .f32 x1, .float .f32 x2, .bool s, .float .f32 x4]] W (Gives (isB b) W)) := by
  obtain ⟨b, h1, h2⟩ := bothB_sound (env := envOf [.f (kcv .f32 x0), .f (kcv .f32 x1), .f (kcv .f32 x2), .b s, .f (kcv .f32 x4)]) follows (sums_ok _) (sums_ext _) checkedLam.out (vars_wf 5) (fun x hx => (by cases hx))
  refine ⟨b, fun W g hg hc => ?_, fun W => ?_⟩
  · refine h1 (fun _ => g) (fun i => i = 0) [.pointer (some ⟨g, 0, none⟩)] W ⟨[(g, [.float .f32 x0, .float .f32 x1, .float .f32 x2, .bool s, .float .f32 x4])], .cons ⟨rfl, rfl, lamC x0 x1 x2 x4 s _ _⟩ .nil, ?_⟩ (.cons ⟨rfl, rfl⟩ .nil) (fun i h _ e => by omega)
    intro x hx
    simp only [List.mem_singleton] at hx
    subst hx
    exact ⟨hg, fun j x hx => by simpa using hc j x hx⟩
  · exact h2 (fun _ => 0) (fun _ => False) [.agg #[.float .f32 x0, .float .f32 x1, .float .f32 x2, .bool s, .float .f32 x4]] W ⟨[], .nil, fun x hx => (by cases hx)⟩ (.cons ⟨_, rfl, lamC x0 x1 x2 x4 s _ _⟩ .nil) (fun i _ _ h => h)
theorem lampPlain (x0 x1 x2 x4 : Nat) (s : Bool) (hp : plainP (cp x0 x1 x2) = false) (W : World) (g : Nat) (hg : g < W.heap.size) (hc : ∀ k x, [.float .f32 x0, .float .f32 x1, .float .f32 x2, .bool s, .float .f32 x4][k]? = some x → W.cell? ⟨g, k, none⟩ = some x) : Calls Tryd.prog 18 #[.pointer (some ⟨g, 0, none⟩)] W (Gives (isB false) W) := by
  obtain ⟨e1, hi, hd⟩ := ptNd_spec (env := envOf [.f (kcv .f32 x0), .f (kcv .f32 x1), .f (kcv .f32 x2), .b s, .f (kcv .f32 x4)]) (a := 0) (b := 1) (c := 2) (vars_wf 5) (by decide) (by decide) (by decide)
  have e2 := e1.trans (heard_ext e1.wf hi)
  have hv : (den (envOf [.f (kcv .f32 x0), .f (kcv .f32 x1), .f (kcv .f32 x2), .b s, .f (kcv .f32 x4)]) (ptNd 0 1 2 ⟨5, vars 5, [], []⟩).2.l (ptNd 0 1 2 ⟨5, vars 5, [], []⟩).1).bv = false := by
    rw [hd]
    rw [vars_den _ 5 0 (by decide), vars_den _ 5 1 (by decide), vars_den _ 5 2 (by decide)]
    rw [← Bool.and_assoc]
    exact hp
  rw [hv] at e2
  have e3 : Ext (envOf [.f (kcv .f32 x0), .f (kcv .f32 x1), .f (kcv .f32 x2), .b s, .f (kcv .f32 x4)]) ⟨5, vars 5, [], []⟩ lamT := e2
  have hf := e3.fk (fun x hx => (by cases hx))
  refine aloneF_sound follows (sums_ok _) (sums_ext _) checkedLamF.out e3.wf hf (fun _ => g) (fun i => i = 0) [.pointer (some ⟨g, 0, none⟩)] W ⟨[(g, [.float .f32 x0, .float .f32 x1, .float .f32 x2, .bool s, .float .f32 x4])], .cons ⟨rfl, rfl, (lamC x0 x1 x2 x4 s _ _).mono fun _ _ => Cr.mono (e3.up _ _)⟩ .nil, ?_⟩ (.cons ⟨rfl, rfl⟩ .nil) (fun i h _ e => by omega)
  intro x hx
  simp only [List.mem_singleton] at hx
  subst hx
  exact ⟨hg, fun j x hx => by simpa using hc j x hx⟩
end Go.Proofs.YtljpggeogiabgaaDoor
namespace Go.Proofs.YtljpggeogiabgaaDoor.lawExactReadLamp
open Go.ChangeShapes Go.WideShapes Go.ChangeAt Go.RowKit Go.Flo Go.Mem Go.Sx
open Go.ChangeMaps (open_string shut_string)
set_option linter.unusedSimpArgs false
set_option linter.unusedVariables false
theorem cell5 {w W : World} {v : Value} (h5 : 1 < w.heap.size) (hm : w.cell? ⟨1, 0, none⟩ = some v) (hB : Below w.heap.size w W) : W.cell? ⟨1, 0, none⟩ = some v := (hB.cell (p := ⟨1, 0, none⟩) h5).trans hm
theorem lt5 {w W : World} (h5 : 1 < w.heap.size) (hB : Below w.heap.size w W) : 1 < W.heap.size := Nat.lt_of_lt_of_le h5 hB.size
structure CkE (t : Tb) : Prop where
  out : check Tryd.prog sums 60 30 10 [.p (.agg lamCells), .p (.agg lamCells)] topN t = true
set_option maxRecDepth 100000 in
set_option maxHeartbeats 100000000 in
theorem checkedE : CkE ⟨5, vars 5, [], []⟩ := ⟨by kernel_rfl⟩
theorem eqL5 (x0 x1 x2 x4 : Nat) (b : Bool) (w : World) : Calls Tryd.prog 10 #[.agg #[.float .f32 x0, .float .f32 x1, .float .f32 x2, .bool b, .float .f32 x4], .agg #[.float .f32 x0, .float .f32 x1, .float .f32 x2, .bool b, .float .f32 x4]] w (Gives (isB true) w) := by
  have h : Holds (envOf [.f (kcv .f32 x0), .f (kcv .f32 x1), .f (kcv .f32 x2), .b b, .f (kcv .f32 x4)]) Tryd.prog 10 [.p (.agg lamCells), .p (.agg lamCells)] ⟨5, vars 5, [], []⟩ := (check_holds follows (sums_ok _) (sums_ext _) checkedE.out)
  exact h (vars_wf 5) (fun x hx => (by cases hx)) [.agg #[.float .f32 x0, .float .f32 x1, .float .f32 x2, .bool b, .float .f32 x4], .agg #[.float .f32 x0, .float .f32 x1, .float .f32 x2, .bool b, .float .f32 x4]] (.cons ⟨_, rfl, lamC x0 x1 x2 x4 b _ _⟩ (.cons ⟨_, rfl, lamC x0 x1 x2 x4 b _ _⟩ .nil)) w
theorem ptR_some {ws : List ByteArray} {x y z : Nat} (h : ptR ws = some (x, y, z)) : numsV ws = some [x, y, z] := by
  unfold ptR at h
  split at h
  · rename_i hn
    split at h
    · cases h; exact hn
    · cases h
  · cases h
theorem nums4 {P : List ByteArray} {q : ByteArray} {ns : List Nat} (h : numsV (P ++ [q]) = some ns) (hl : P.length = 3) : ∃ x0 x1 x2 x4, numsV P = some [x0, x1, x2] ∧ ns = [x0, x1, x2, x4] := by
  obtain ⟨a, b, c, rfl⟩ := three_of hl
  simp only [List.cons_append, List.nil_append, numsV] at h
  rw [numsV3]
  cases ha : resV a <;> rw [ha] at h
  · simp at h
  cases hb : resV b <;> rw [hb] at h
  · simp at h
  cases hc : resV c <;> rw [hc] at h
  · simp at h
  cases hq : resV q <;> rw [hq] at h
  · simp at h
  · simp at h
    exact ⟨_, _, _, _, rfl, h.symm⟩
/-- both sides answer the same -/
def Two (s : ByteArray) : Prop := ∃ (x0 x1 x2 x4 : Nat) (b : Bool) (k : Int), (∀ w, Calls Tryd.prog 8 #[.string s] w (Gives (fun v => v = .tuple #[.agg #[.float .f32 x0, .float .f32 x1, .float .f32 x2, .bool b, .float .f32 x4], .int .i64 k]) w)) ∧
    (∀ (w : World) (m : Int), 1 < w.heap.size → w.cell? ⟨1, 0, none⟩ = some (.int .i64 m) → Calls Tryd.prog 9 #[.string s] w (Gives (fun v => v = .tuple #[.agg #[.float .f32 x0, .float .f32 x1, .float .f32 x2, .bool b, .float .f32 x4], .int .i64 k]) w))
def SB (s : ByteArray) : Prop := ∀ w, Calls Tryd.prog 8 #[.string s] w (Gives (fun v => v = .tuple #[zeroL, .int .i64 5]) w)
def IB (s : ByteArray) : Prop := ∀ (w : World) (m : Int), 1 < w.heap.size → w.cell? ⟨1, 0, none⟩ = some (.int .i64 m) → Calls Tryd.prog 9 #[.string s] w (Gives (fun v => v = .tuple #[zeroL, .int .i64 5]) w)
theorem two_bad {s : ByteArray} (h1 : SB s) (h2 : IB s) : Two s := ⟨0, 0, 0, 0, false, 5, h1, h2⟩
theorem two_if {s : ByteArray} {x0 x1 x2 x4 : Nat} {b c : Bool} (h1 : ∀ w, Calls Tryd.prog 8 #[.string s] w (Gives (fun v => v = if c then .tuple #[lamV x0 x1 x2 x4 b, .int .i64 0] else .tuple #[zeroL, .int .i64 5]) w))
    (h2 : ∀ (w : World) (m : Int), 1 < w.heap.size → w.cell? ⟨1, 0, none⟩ = some (.int .i64 m) → Calls Tryd.prog 9 #[.string s] w (Gives (fun v => v = if c then .tuple #[lamV x0 x1 x2 x4 b, .int .i64 0] else .tuple #[zeroL, .int .i64 5]) w)) : Two s := by
  cases c
  · exact two_bad h1 h2
  · exact ⟨x0, x1, x2, x4, b, 0, h1, h2⟩
theorem words (l : List UInt8) : ((l == [108, 97, 109, 112]) = false ∧ (l == [115, 117, 110]) = false) ∨ ((l == [108, 97, 109, 112]) = true ∧ (l == [115, 117, 110]) = false) ∨ ((l == [108, 97, 109, 112]) = false ∧ (l == [115, 117, 110]) = true) := by
  cases hL : (l == [108, 97, 109, 112])
  · cases hS : (l == [115, 117, 110])
    · exact .inl ⟨rfl, rfl⟩
    · exact .inr (.inr ⟨rfl, rfl⟩)
  · have e : l = [108, 97, 109, 112] := eq_of_beq hL
    subst e
    exact .inr (.inl ⟨rfl, by decide⟩)
theorem sides (s : ByteArray) (hs : s.size ≤ 1048576) : Two s := by
  rcases cut_B s with ⟨hF, hg⟩ | ⟨hF, hg, hR⟩
  · rcases last_segs (cutR s) with ⟨hl, hg2⟩ | ⟨i, hlt, hi, hg2⟩
    · have hw : segsB s = cutA s :: [cutR s] := by rw [hg, hg2]
      refine two_bad (fun w => ?_) (fun w m h5 hm => ReadLampI0 s w h5 hm hs hl)
      cases hn : numsV [cutR s] with
      | none => exact ReadLampS1 s w hs hw (n := 2) rfl (by decide) hn
      | some ns => exact ReadLampS2 s w hs hw (n := 2) rfl (by decide) hn (by rw [numsV_len hn]; simp)
    · have hA : cutA s = cutA s ∧ cutR s = cutR s ∧ cutF s = cutF s ∧ (cutR s).size ≤ s.size := ⟨rfl, rfl, rfl, cutR_size s⟩
      obtain ⟨P, hP⟩ : ∃ P, segsB ((cutR s).extract 0 i) = P := ⟨_, rfl⟩
      obtain ⟨q, hq⟩ : ∃ q, (cutR s).extract (i + 1) (cutR s).size = q := ⟨_, rfl⟩
      have hw : segsB s = cutA s :: (P ++ [q]) := by rw [hg, hg2, hP, hq]
      have s1 : numsV (P ++ [q]) = none → SB s := fun hn w => ReadLampS1 s w hs hw (n := (P ++ [q]).length + 1) rfl (by simp) hn
      have s2 : ∀ ns, numsV (P ++ [q]) = some ns → ns.length ≠ 4 → SB s := fun ns hn h4 w => ReadLampS2 s w hs hw (n := (P ++ [q]).length + 1) rfl (by simp) hn h4
      cases hp : ptR P with
      | none =>
        have hp' : ptR (segsB ((cutR s).extract 0 i)) = none := by rw [hP]; exact hp
        have hI : IB s := fun w m h5 hm => by
          rcases words (cutA s).toList with ⟨hL, hS⟩ | ⟨hL, hS⟩ | ⟨hL, hS⟩
          · exact ReadLampI1 s w h5 hm hs hL hS
          · exact ReadLampI2a s w hA h5 hm hs hL hS hi hlt hp'
          · exact ReadLampI3a s w hA h5 hm hs hL hS hi hlt hp'
        refine two_bad ?_ hI
        cases hn : numsV (P ++ [q]) with
        | none => exact s1 hn
        | some ns =>
          by_cases h4 : ns.length = 4
          · have hl4 : (P ++ [q]).length = 4 := by rw [← numsV_len hn]; exact h4
            have hl3 : P.length = 3 := by simpa using hl4
            obtain ⟨x0, x1, x2, x4, hn3, rfl⟩ := nums4 hn hl3
            have hpl : plainP (cp x0 x1 x2) = false := by
              rw [ptR_three hn3] at hp
              cases h : plainP (cp x0 x1 x2)
              · rfl
              · rw [h] at hp; simp at hp
            intro w
            rcases words (cutA s).toList with ⟨hL, hS⟩ | ⟨hL, hS⟩ | ⟨hL, hS⟩
            · exact ReadLampS3 s w hs hw hl4 hn hL hS
            · exact ReadLampS4 s w hs hw hl4 hn hL hS false (lampPlain x0 x1 x2 x4 false hpl)
            · exact ReadLampS5 s w hs hw hl4 hn hL hS false (lampPlain x0 x1 x2 x4 true hpl)
          · exact s2 ns hn h4
      | some t =>
        obtain ⟨x0, x1, x2⟩ := t
        have hp' : ptR (segsB ((cutR s).extract 0 i)) = some (x0, x1, x2) := by rw [hP]; exact hp
        have hsn := numsV_snoc (b := q) (ptR_some hp)
        cases hr : resV q with
        | none =>
          have hr' : resV ((cutR s).extract (i + 1) (cutR s).size) = none := by rw [hq]; exact hr
          rw [hr] at hsn
          refine two_bad (s1 hsn) fun w m h5 hm => ?_
          rcases words (cutA s).toList with ⟨hL, hS⟩ | ⟨hL, hS⟩ | ⟨hL, hS⟩
          · exact ReadLampI1 s w h5 hm hs hL hS
          · exact ReadLampI2b s w hA h5 hm hs hL hS hi hlt hp' hr'
          · exact ReadLampI3b s w hA h5 hm hs hL hS hi hlt hp' hr'
        | some x4 =>
          have hr' : resV ((cutR s).extract (i + 1) (cutR s).size) = some x4 := by rw [hq]; exact hr
          rw [hr] at hsn
          have hn : numsV (P ++ [q]) = some [x0, x1, x2, x4] := hsn
          have hl4 : (P ++ [q]).length = 4 := by rw [← numsV_len hn]; rfl
          rcases words (cutA s).toList with ⟨hL, hS⟩ | ⟨hL, hS⟩ | ⟨hL, hS⟩
          · exact two_bad (fun w => ReadLampS3 s w hs hw hl4 hn hL hS) (fun w m h5 hm => ReadLampI1 s w h5 hm hs hL hS)
          · obtain ⟨c, h1, h2⟩ := lampBoth x0 x1 x2 x4 false
            exact two_if (fun w => ReadLampS4 s w hs hw hl4 hn hL hS c h1) (fun w m h5 hm => ReadLampI2c s w hA h5 hm hs hL hS hi hlt hp' hr' c h2)
          · obtain ⟨c, h1, h2⟩ := lampBoth x0 x1 x2 x4 true
            exact two_if (fun w => ReadLampS5 s w hs hw hl4 hn hL hS c h1) (fun w m h5 hm => ReadLampI3c s w hA h5 hm hs hL hS hi hlt hp' hr' c h2)
  · refine two_bad (fun w => ReadLampS0 s w hs hg) (fun w m h5 hm => ReadLampI0 s w h5 hm hs (by rw [hR]; exact last_empty))
set_option maxRecDepth 20000 in
set_option maxHeartbeats 4000000 in
theorem law (txt : ByteArray) (w : World) {m : Int} (h5 : 1 < w.heap.size) (hm : w.cell? ⟨1, 0, none⟩ = some (.int .i64 m)) :
    Calls Tryd.prog 4 #[.string txt] w (Gives (isB true) w) := by
  by_cases hs : txt.size ≤ 1048576
  · have hs' : ¬ ((txt.size : Int) > 1048576) := by omega
    obtain ⟨x0, x1, x2, x4, b, k, hS, hI⟩ := sides txt hs
    have H : Aside ((∀ w, Calls Tryd.prog 8 #[.string txt] w (Gives (fun v => v = .tuple #[.agg #[.float .f32 x0, .float .f32 x1, .float .f32 x2, .bool b, .float .f32 x4], .int .i64 k]) w)) ∧
      (∀ (w : World) (m : Int), 1 < w.heap.size → w.cell? ⟨1, 0, none⟩ = some (.int .i64 m) → Calls Tryd.prog 9 #[.string txt] w (Gives (fun v => v = .tuple #[.agg #[.float .f32 x0, .float .f32 x1, .float .f32 x2, .bool b, .float .f32 x4], .int .i64 k]) w)) ∧ 1 < w.heap.size ∧ w.cell? ⟨1, 0, none⟩ = some (.int .i64 m)) := ⟨hS, hI, h5, hm⟩
    clear hs h5 hm hS hI
    have hkk : (k != k) = false := by simp
    go_enter Tryd.func4, Tryd.ntmps4
    go_wp2_with (first
      | (go_at_call 8; refine (H.out.1 _).mono ?_; rintro e w1 ⟨v1, rfl, rfl, hb⟩; have HB1 : Aside _ := hb; clear hb)
      | (go_at_call 9; refine (H.out.2.1 _ m (lt5 H.out.2.2.1 (below_alloc HB1.out)) (cell5 H.out.2.2.1 H.out.2.2.2 (below_alloc HB1.out))).mono ?_; rintro e w2 ⟨v2, rfl, rfl, hb⟩; obtain ⟨hc2, hf2⟩ := bcell hb; have hz2 : w1.heap.size < w2.heap.size := (by have := hb.size; (try simp at this); omega); have hz3 : ¬ w1.heap.size = w2.heap.size := Nat.ne_of_lt hz2; (try simp at hc2 hf2); have HB2 : Aside _ := below_step hb (below_alloc HB1.out); clear hb)
      | (go_at_call 10; refine (eqL5 x0 x1 x2 x4 b _).mono ?_; rintro e w3 ⟨v3, rfl, hv, hb⟩; (simp only [isB] at hv; subst hv); have HB3 : Aside _ := below_step hb (below_alloc HB2.out); clear hb))
    all_goals simp [bodyPost, results, Tryd.results4, go_sem]
    all_goals exact ⟨_, rfl, rfl, HB3.out⟩
  · have hs' : ((txt.size : Int) > 1048576) := by omega
    go_enter Tryd.func4, Tryd.ntmps4
    go_wp2_with fail
    all_goals simp [bodyPost, results, Tryd.results4, go_sem]
    all_goals exact ⟨_, rfl, rfl, Below.refl _ _⟩
theorem ownKnob0 : ownKnob Tryd.prog.godebug = none := by kernel_rfl
set_option maxRecDepth 100000 in
theorem lifted (os : Os) (started : os.Started) (H : Type) (enc : TypeId × Value → H) :
    ReturnsInHanded {} Tryd.checked os 4 .any (fun w args => (Rows.fnExactReadLampSpec.pre enc Tryd.prog Tryd.f4 Rows.fnExactReadLampRow.domain false w args ∧ laidMetH Tryd.prog Rows.fnExactReadLampRow.laid w) ∧ sizedMet enc Tryd.prog Tryd.f4 (OpenSpec.ofChange Rows.fnExactReadLampSpec) false w args)
      (Rows.fnExactReadLampSpec.post enc Tryd.prog Tryd.f4 false true false false) := by
  refine returnsInHanded_of_row (C := Tryd.checked) (s := OpenSpec.ofChange Rows.fnExactReadLampSpec) (F := fun _ _ _ => 0) (conds := Rows.fnExactReadLampRow.domain) (laid := Rows.fnExactReadLampRow.laid) ownKnob0 started (by kernel_rfl) Tryd.func4
    (ChangeSpec.witness_shaped (enc := enc) (C := Tryd.checked) (os := os) (X := fun w _ => laidMetH Tryd.prog Rows.fnExactReadLampRow.laid w) false (World.laidAll Tryd.prog os Rows.fnExactReadLampRow.laid) #[.string ByteArray.empty] 8 (World.laidAll_os _ _ _)
      (World.shaped_of_ZipB (by kernel_rfl) (by kernel_rfl)) (by kernel_rfl) (by kernel_rfl) (by kernel_rfl)
      (by rw [MakeChecks.laidMetH_plain _ _ _ (by kernel_rfl)]; exact laidMet_laidAll _ (by kernel_rfl) (by kernel_rfl))) ?_
  intro W base args ds gs before hval0 hW _ _ _ hL hsh _
  have hval : ∀ (j : Nat) t v, Tryd.f4.params[j]? = some t → args[j]? = some v → Value.okWide Tryd.prog W .any base t v := hval0
  have hW' := hW
  obtain ⟨p, q, hA0, hV, rfl, hfz, hnd⟩ := hW
  have hA : DataW.TrodAll enc Tryd.prog W 0 (fun _ => true) true Tryd.f4.params.toList args.toList ds p := hA0
  rw [Tryd.params4] at hA hval
  obtain ⟨v0, vs0, d0, ds0, p0, q0, hargs, rfl, rfl, h0, r0⟩ := trodAll_cons hA
  obtain ⟨rfl, rfl, rfl⟩ := trodAll_nil r0
  obtain rfl : args = #[v0] := by cases args; simp_all
  obtain ⟨rfl, rfl⟩ := trodVars_none hV
  have k0 := h0
  have lt0 := lt_of_trod h0
  obtain ⟨x0, rfl, rfl, rfl, w0⟩ := open_string Tryd.underlying9 (hval 0 9 v0 rfl rfl) h0
  clear hA0 hval0
  obtain ⟨m, hm⟩ := Tryd.laysM147.s1_3 W hsh
  have h5 : 1 < W.heap.size := World.block_lt_of_cell? W _ hm
  refine (law x0 W h5 hm).mono fun e W' hq => ?_
  obtain ⟨v, rfl, rfl, bel⟩ := hq
  exact ⟨_, rfl, _, _, _, [], _, [], hW', trodAll_mk1 (shut_bool Tryd.underlying4 _), (trodAll_cons_mk (Below.trod laidOut (by kernel_rfl) (of_decide_eq_true (by kernel_rfl)) k0 bel lt0) trodAll_mk0), rfl, bel.frame _, fun h => by cases h⟩
theorem over : Rows.fnExactReadLampRow.holds Tryd.pinned (OpenSpec.ofChange Rows.fnExactReadLampSpec) :=
  OpenClaim.holds_of_wide 4 Tryd.f4 rfl rfl rfl rfl rfl rfl rfl ⟨rfl, rfl, rfl, rfl, rfl⟩ rfl rfl rfl rfl rfl (by kernel_rfl) Tryd.func4 (by kernel_rfl)
    (of_decide_eq_true (by kernel_rfl)) (by unfold Func.isWrapper; rw [if_neg (of_decide_eq_false (by kernel_rfl))]; exact ⟨rfl, rfl⟩)
    (fun os started H enc _ => lifted os started H enc)
theorem proved : Rows.FnExactReadLampCardSaid :=
  Claim7.holds_tied_plain_at .later [] Rows.fnExactReadLampCard.laidKinds true Rows.fnExactReadLampCard.stood.harness Rows.fnExactReadLampCard.stood.looks
    over (fun _ h => by cases h) (by kernel_rfl) (fun _ h => by cases h) fnExactReadLamp_row_tie rfl ⟨rfl, rfl⟩ (by kernel_rfl) rfl
    (fun f fn hf hfn => by
      obtain rfl : f = 4 := Option.some.inj ((show Tryd.prog.funcNamed Rows.fnExactReadLampRow.func = some 4 by kernel_rfl).symm.trans hf) |>.symm
      obtain rfl : fn = Tryd.f4 := (Option.some.inj (Tryd.func4.symm.trans hfn)).symm
      exact ⟨by kernel_rfl, fun j t ht => by
        rw [Tryd.params4] at ht
        have hm : t ∈ [9] := by simpa using Array.mem_of_getElem? ht
        have hall : ([9].all fun u => !Tryd.prog.wantsStandIn u) = true := by kernel_rfl
        exact (show Tryd.prog.wantsStandIn t = false by simpa using List.all_eq_true.1 hall t hm)⟩)
    (by kernel_rfl)
end Go.Proofs.YtljpggeogiabgaaDoor.lawExactReadLamp
