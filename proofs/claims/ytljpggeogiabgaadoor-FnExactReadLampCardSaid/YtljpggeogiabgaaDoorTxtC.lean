/- Contracts: lists of numbers read (the model's side). -/
import Derived.Test.YtljpggeogiabgaaDoorTxtB
namespace Go.Proofs.YtljpggeogiabgaaDoor
open Go.ChangeShapes Go.WideShapes Go.ChangeAt Go.RowKit Go.Flo Go.Mem
set_option linter.unusedSimpArgs false
set_option linter.unusedVariables false
def numsV : List ByteArray → Option (List Nat)
  | [] => some []
  | b :: l => match resV b, numsV l with | some n, some ns => some (n :: ns) | _, _ => none
theorem numsV_snoc {ns : List Nat} : ∀ {l : List ByteArray} {b : ByteArray}, numsV l = some ns → numsV (l ++ [b]) = (resV b).map fun n => ns ++ [n]
  | [], b, h => by
    cases h
    show (match resV b, numsV [] with | some n, some ns => some (n :: ns) | _, _ => none) = _
    cases resV b <;> rfl
  | c :: l, b, h => by
    rw [numsV] at h
    rw [List.cons_append, numsV]
    cases hc : resV c with
    | none => rw [hc] at h; simp at h
    | some m =>
      rw [hc] at h
      cases hl : numsV l with
      | none => rw [hl] at h; simp at h
      | some ms =>
        rw [hl] at h
        simp at h
        subst h
        rw [numsV_snoc hl]
        cases resV b <;> rfl
theorem numsV_bad : ∀ {l : List ByteArray} {i : Nat} {b : ByteArray}, l[i]? = some b → resV b = none → numsV l = none
  | [], i, b, h, _ => by simp at h
  | c :: l, 0, b, h, hb => by simp at h; subst h; rw [numsV, hb]
  | c :: l, i + 1, b, h, hb => by
    rw [numsV, numsV_bad (by simpa using h) hb]
    cases resV c <;> rfl
theorem numsV_len : ∀ {l : List ByteArray} {ns : List Nat}, numsV l = some ns → ns.length = l.length
  | [], ns, h => by cases h; rfl
  | c :: l, ns, h => by
    rw [numsV] at h
    cases hc : resV c with
    | none => rw [hc] at h; simp at h
    | some m =>
      rw [hc] at h
      cases hl : numsV l with
      | none => rw [hl] at h; simp at h
      | some ms => rw [hl] at h; simp at h; subst h; simp [numsV_len hl]
def rF (ns : List Nat) : List (List Value) := ns.map fun n => [.float .f32 n]
theorem rF_len (ns : List Nat) : (rF ns).length = ns.length := by simp [rF]
theorem rF_get {ns : List Nat} {i n : Nat} (h : ns[i]? = some n) : (rF ns)[i]? = some [.float .f32 n] := by simp [rF, h]
def NumOk (ws : List ByteArray) (u : Value) (b : Bool) (w' : World) : Prop := match numsV ws with | some ns => b = true ∧ Rls 1 w' u (rF ns) | none => b = false
theorem numOk_bad {ws : List ByteArray} {u : Value} {w' : World} (h : numsV ws = none) : NumOk ws u false w' := by unfold NumOk; rw [h]
theorem numOk_good {ws : List ByteArray} {u : Value} {w' : World} {ns : List Nat} (h : numsV ws = some ns) (hR : Rls 1 w' u (rF ns)) : NumOk ws u true w' := by unfold NumOk; rw [h]; exact ⟨rfl, hR⟩
theorem map_snocF (out : List Nat) (x : Nat) : List.map (Value.float .f32) out ++ [Value.float .f32 x] = List.map (Value.float .f32) (out ++ [x]) := by simp
theorem take_stepB {ws : List ByteArray} {i : Nat} {b : ByteArray} {ns : List Nat} {n : Nat} (h : ws[i]? = some b) (hb : resV b = some n) (ht : numsV (ws.take i) = some ns) : numsV (ws.take (i + 1)) = some (ns ++ [n]) := by
  rw [List.take_succ_eq_append_getElem (List.getElem?_eq_some_iff.1 h).1, (List.getElem?_eq_some_iff.1 h).2, numsV_snoc ht, hb]; rfl
theorem _root_.Go.World.ownsRow.grown_to {w w' : World} {base e size n : Nat} {v : Value} {xs : List Value} (h : w.ownsRow base e size v n xs) (hb : Below w.heap.size w w') (_ : True := trivial) : w'.ownsRow base e size v n xs := by
  refine ⟨h.1, ?_⟩
  rcases h.2 with hn | ⟨g, cap, cur, rfl, hbg, hgg, rest⟩
  · exact .inl hn
  · exact .inr ⟨g, cap, cur, rfl, hbg, (hb.block g (Array.getElem?_eq_some_iff.1 hgg).1).trans hgg, rest⟩
--## Numbers 11 24
set_option maxRecDepth 20000 in
set_option maxHeartbeats 1000000 in
theorem NumbersS (v : Value) (ws : List ByteArray) (w : World) (hP : Rls 1 w v (rS ws)) (hn : ws.length ≤ 1048577) :
    Calls Tryd.prog 11 #[v] w fun e w' => ∃ u b, e = .returned (.tuple #[u, .bool b]) ∧ Below w.heap.size w w' ∧ NumOk ws u b w' := by
  obtain ⟨i0, hi, hz0, hz1, hz2⟩ := info_parts infoF32
  have hP' := hP
  obtain ⟨a, c, rfl, _⟩ := hP
  simp only [rS_len] at hP' ⊢
  go_enter Tryd.func11, Tryd.ntmps11
  go_wp2_with fail
  go_loopg [4, 5] ws.length (fun k s4 s5 wr => ∃ (i : Nat) (out : List Nat), s5 = .int .i64 i ∧ i + k = ws.length ∧ out.length = i ∧ wr.ownsRow w.heap.size 22 1 s4 out.length (out.map (Value.float .f32)) ∧ numsV (ws.take i) = some out ∧ Below w.heap.size w wr)
  · exact ⟨0, [], rfl, by omega, rfl, World.ownsRow_made w #[] 0 (Nat.le_refl _) (by unfold maxLen; omega) rfl, rfl, below_alloc (Below.refl _ _)⟩
  · obtain ⟨i, out, rfl, hik, ho, hown, heq, HB⟩ := hrel
    have B : Aside (numsV (ws.take i) = some out ∧ i + gk = ws.length ∧ Below w.heap.size w wr ∧ ws.length ≤ 1048577 ∧ out.length = i) := ⟨heq, hik, HB, hn, ho⟩
    have hsz := HB.size
    by_cases hi : i < ws.length
    · obtain ⟨b, hb⟩ : ∃ b, ws[i]? = some b := ⟨ws[i], List.getElem?_eq_getElem hi⟩
      obtain ⟨g, c1, e1, hb1, hc1⟩ := (hP'.below HB).at (rS_get hb)
      rw [rS_len] at e1
      cases e1
      have hi' : (i : Int) < (ws.length : Int) := by omega
      have hi0 : (0 : Int) ≤ (i : Int) := Int.natCast_nonneg _
      have hx0 : wr.cell? (g.add i) = some (.string b) := by have := hc1 0 _ rfl; rw [Nat.mul_one] at this; exact this
      have C : Aside (ws[i]? = some b) := hb
      have hol : out.length ≤ 1048577 := by omega
      clear heq hik HB hb hb1 hc1 hn ho hP'
      go_wp2_with (first
        | (refine wpList_idxR rfl rfl (by kernel_rfl) (by kernel_rfl) rfl rfl (Int.natCast_nonneg _) hi' ?_; simp only [Int.toNat_natCast, Nat.mul_one])
        | (go_at_call 24; refine (l01Read_any b _).mono ?_; rintro e w' ⟨_, rfl, ⟨x, q, rfl, hq⟩, hb'⟩; have R : Aside ((q = true ∧ resV b = some x) ∨ (q = false ∧ resV b = none)) := hq; have HB1 : Aside (Below wr.heap.size wr w') := hb'; have hsz1 := hb'.size; have hown' := hown.grown_to hb'; clear hq hb' hx0)
        | (at_builtin; refine wpList_append_own _ rfl _ _ 36 rfl w.heap.size 22 i0 (.float .f32 0) 1 4 Tryd.underlying36 ‹_› hz0 hz1 hz2 rfl (by decide) _ _ _ rfl (hown'.alloc _) ⟨_, 0, none⟩ 1 1 [.float .f32 x] rfl rfl (oneC _ _ _) (f_one _ _) (by unfold maxLen; omega) (by omega) (by simp; omega) ?_; intro v' w1 hown1 hg1 _))
      all_goals obtain ⟨heq, hik, HB, hn, ho⟩ := B.out
      · rename_i hq0
        have hr : resV b = none := by
          rcases R.out with ⟨h1, h2⟩ | ⟨h1, h2⟩
          · rw [h1] at hq0; cases hq0
          · exact h2
        have hbad := numsV_bad C.out hr
        simp [bodyPost, results, Tryd.results11, go_sem]
        refine ⟨below_alloc (below_step HB1.out HB), ?_⟩
        first
          | exact numOk_bad hbad
          | (simp only [Bool.not_eq_true'] at hq0; exact numOk_bad hbad)
      · rename_i hq0 _
        have hr : resV b = some x := by
          rcases R.out with ⟨h1, h2⟩ | ⟨h1, h2⟩
          · exact h2
          · rw [h1] at hq0; cases hq0
        have hst := take_stepB C.out hr heq
        go_roundg (gk - 1)
        · refine ⟨i + 1, out ++ [x], ?_, by omega, by simp; omega, by rw [List.length_append, ← map_snocF]; exact hown1, hst, below_app (base := 0) (below_step HB1.out HB) (.inr ⟨_, hown'⟩) hg1⟩
          first
            | (congr 1; done)
            | (congr 1; unfold wrap64; omega)
        · omega
    · have hie : i = ws.length := by omega
      have hi' : ¬ ((i : Int) < (ws.length : Int)) := by omega
      clear hP'
      have ht : numsV ws = some out := by rw [hie, List.take_of_length_le (Nat.le_refl _)] at heq; exact heq
      have hR := rls_of_owns hown
      rw [List.map_map] at hR
      have hR2 : Aside (Rls 1 wr u4 (rF out)) := hR
      have T : Aside (numsV ws = some out ∧ Below w.heap.size w wr) := ⟨ht, HB⟩
      clear hR ht hown heq HB B
      go_wp2_with fail
      simp [bodyPost, results, Tryd.results11, go_sem]
      exact ⟨T.out.2, numOk_good T.out.1 hR2.out⟩
end Go.Proofs.YtljpggeogiabgaaDoor
