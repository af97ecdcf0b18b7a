/- A symbolic evaluator of closed terms: strings that are joined. -/
import Derived.Test.YtljpggeogiabgaaSxR
import Derived.Lib.Join
namespace Go.Sx
open Go Go.RowKit Go.Flo Go.Mem Go.Proofs.Ytljpggeogiabgaa
set_option linter.unusedVariables false
set_option linter.unusedSimpArgs false

def joinP (sep : List St) : List (List St) → List St
  | [] => []
  | x :: r => match r with
    | [] => x
    | _ :: _ => x ++ (sep ++ joinP sep r)
theorem joinP_ok (e : E) (sep : List St) : ∀ (pss : List (List St)), strB e (joinP sep pss) = Lib.join (pss.map (strB e)) (strB e sep)
  | [] => rfl
  | [x] => by rw [List.map_cons, List.map_nil, Lib.join_one]; rfl
  | x :: y :: r => by
    rw [List.map_cons, Lib.join_cons]
    show strB e (x ++ (sep ++ joinP sep (y :: r))) = _
    rw [strB_append, strB_append, joinP_ok e sep (y :: r), List.map_cons, Lib.join_cons]
    unfold Lib.joinTail
    simp
def strsOf : List C → Option (List (List St))
  | [] => some []
  | .str ps :: l => match strsOf l with | some r => some (ps :: r) | none => none
  | _ :: _ => none
theorem strsOf_ok {e : E} : ∀ {cs : List C} {pss : List (List St)} {vs : List Value}, strsOf cs = some pss → F2 (Cr e) cs vs → (∀ ps ∈ pss, ∀ p ∈ ps, p.ok e) ∧ vs = pss.map fun ps => Value.string ⟨(strB e ps).toArray⟩
  | [], pss, vs, h, hf => by cases h; cases hf; exact ⟨fun _ h => (by cases h), rfl⟩
  | c :: cs, pss, vs, h, hf => by
    cases c <;> simp only [strsOf] at h <;> try (cases h; done)
    rename_i ps
    split at h
    · rename_i r hr
      cases h
      cases hf with
      | cons a b =>
        obtain ⟨h1, h2⟩ := a
        obtain ⟨g1, g2⟩ := strsOf_ok hr b
        refine ⟨fun q hq => ?_, by rw [h2, g2]; rfl⟩
        rcases List.mem_cons.1 hq with rfl | hq
        · exact h1
        · exact g1 q hq
    · cases h
noncomputable def joinS (jn : FuncId) (M : Mm) (f : FuncId) (args : List A) (t : Tb) : Option (Res (A × Tb)) :=
  bif Nat.beq f jn then (match args with
    | [.p (.one (.slc id off len cap)), .p (.one (.str sep))] => match look id M with
      | some cs => match strsOf (subC cs off len) with
        | some pss => bif Nat.beq pss.length len && (Nat.ble len cap && (Nat.ble (lenSts (joinP sep pss)) 1000000 && Nat.ble len 1000000)) then some (.ok (.p (.one (.str (joinP sep pss))), t)) else none
        | none => none
      | none => none
    | _ => none) else none
/-- what is known of the function that joins -/
def JoinOk (Pm : Program) (f : FuncId) : Prop := ∀ (bk o c : Nat) (xs : List ByteArray) (sep : ByteArray) (w : World), (∀ (j : Nat) x, xs[j]? = some x → w.cell? ⟨bk, o + j, none⟩ = some (.string x)) → bk < w.heap.size → xs.length ≤ 140737488355328 → xs.length ≤ c →
  (Lib.join (xs.map (·.data.toList)) sep.data.toList).length ≤ 140737488355328 →
  Calls Pm f #[.slice (some ⟨bk, o, none⟩) xs.length c, .string sep] w fun e w' => e = .returned (.string ⟨(Lib.join (xs.map (·.data.toList)) sep.data.toList).toArray⟩) ∧ Below w.heap.size w w'
noncomputable def sumsJ (sums : List (FuncId × SumF)) (jn : FuncId) : SumsM := fun M f args t => match sumsOf sums f args t with
  | some r => some r
  | none => joinS jn M f args t
theorem sumsJ_ext {env : Nat → Sc} {sums : List (FuncId × SumF)} {jn : FuncId} (h : ∀ x ∈ sums, SumExt1 env x.2) : SumsExtM env (sumsJ sums jn) := by
  intro M f args t q r hq hr hw
  unfold sumsJ at hq
  split at hq
  · rename_i r' h1
    cases hq
    exact sumsOf_ext h _ _ _ _ _ h1 hr hw
  · unfold joinS at hq
    cases hb : Nat.beq f jn <;> rw [hb] at hq <;> simp only [cond_true, cond_false] at hq
    · cases hq
    · split at hq
      · split at hq
        · split at hq
          · generalize (Nat.beq _ _ && _) = bb at hq
            cases bb <;> simp only [cond_true, cond_false] at hq
            · cases hq
            · cases hq; cases hr; exact Ext.refl hw
          · cases hq
        · cases hq
      · cases hq
theorem F2.eqmap {e : E} {cs : List C} {vs : List Value} (o n : Nat) (h : F2 (Cr e) cs vs) : F2 (Cr e) (subC cs o n) (Mem.sub vs o n) := F2.sub o n h
theorem sumsJ_ok {env : Nat → Sc} {Pm : Program} {sums : List (FuncId × SumF)} {jn : FuncId} (h : ∀ x ∈ sums, SumOk1 env Pm x.1 x.2) (hj : JoinOk Pm jn) : SumsOkM env Pm (sumsJ sums jn) := by
  intro M f args t q r hq hr ms K vs W hw hf hrd ha hbare
  unfold sumsJ at hq
  split at hq
  · rename_i r' h1
    cases hq
    exact sumsOf_ok h _ _ _ _ _ h1 hr ms K vs W hw hf ha hbare
  · unfold joinS at hq
    cases hb : Nat.beq f jn <;> rw [hb] at hq <;> simp only [cond_true, cond_false] at hq
    · cases hq
    · have ef := beq_eq hb
      subst ef
      split at hq
      · rename_i id off len cap sep _
        split at hq
        · rename_i cs hcs
          split at hq
          · rename_i pss hpss
            generalize hbb : (Nat.beq _ _ && _) = bb at hq
            cases bb <;> simp only [cond_true, cond_false] at hq
            · cases hq
            · cases hq; cases hr
              simp only [Bool.and_eq_true] at hbb
              obtain ⟨b1, b2, b3, b4⟩ := hbb
              have hlen := beq_eq b1
              have hcap := Nat.le_of_ble_eq_true b2
              have htot := Nat.le_of_ble_eq_true b3
              have hlen2 := Nat.le_of_ble_eq_true b4
              cases ha with
              | cons a1 a2 =>
              cases a2 with
              | cons a2 a3 =>
              cases a3
              obtain ⟨hk, hv⟩ := a1
              obtain ⟨hsep, hv2⟩ := a2
              obtain ⟨us, hus, hlt, hrng, _⟩ := hrd.look hcs
              obtain ⟨g1, g2⟩ := strsOf_ok hpss (F2.sub off len hus)
              have hmk : ∀ ps : List St, (⟨(strB (mkE env t ms K) ps).toArray⟩ : ByteArray).data.toList = strB (mkE env t ms K) ps := fun ps => by simp
              have hmap : (pss.map fun ps => (⟨(strB (mkE env t ms K) ps).toArray⟩ : ByteArray)).map (·.data.toList) = pss.map (strB (mkE env t ms K)) := by
                rw [List.map_map]
                exact List.map_congr_left fun ps _ => hmk ps
              have hcall := hj (ms id) off cap (pss.map fun ps => ⟨(strB (mkE env t ms K) ps).toArray⟩) ⟨(strB (mkE env t ms K) sep).toArray⟩ W (fun j x hx => ?_) hlt (by rw [List.length_map, hlen]; omega) (by rw [List.length_map, hlen]; exact hcap) (by
                rw [hmap, hmk, ← joinP_ok, lenSts_ok]; omega)
              · rw [hmap, hmk, ← joinP_ok, List.length_map, hlen] at hcall
                subst hv; subst hv2
                refine Calls.mono hcall fun e W' ⟨he, hbel⟩ => ⟨_, he, Ext.refl hw, ⟨?_, rfl⟩, hbel⟩
                have hj2 : ∀ (pss : List (List St)), (∀ ps ∈ pss, ∀ p ∈ ps, p.ok (mkE env t ms K)) → ∀ p ∈ joinP sep pss, p.ok (mkE env t ms K) := by
                  intro pss
                  induction pss with
                  | nil => intro _ p hp; cases hp
                  | cons x r ih =>
                    intro h p hp
                    cases r with
                    | nil => exact h x List.mem_cons_self p hp
                    | cons y r =>
                      have hp' : p ∈ x ++ (sep ++ joinP sep (y :: r)) := hp
                      rcases List.mem_append.1 hp' with hp' | hp'
                      · exact h x List.mem_cons_self p hp'
                      · rcases List.mem_append.1 hp' with hp' | hp'
                        · exact hsep p hp'
                        · exact ih (fun z hz => h z (List.mem_cons_of_mem _ hz)) p hp'
                exact hj2 pss g1
              · have h1 : (Mem.sub us off len)[j]? = some (.string x) := by
                  rw [g2, List.getElem?_map]
                  rw [List.getElem?_map] at hx
                  cases hp : pss[j]? with
                  | none => rw [hp] at hx; cases hx
                  | some ps => rw [hp] at hx; simp only [Option.map_some, Option.some.injEq] at hx; rw [← hx]; rfl
                have h2 : us[off + j]? = some (.string x) := by
                  rw [sub_extract] at h1
                  have hjl : j < len := by
                    have := (List.getElem?_eq_some_iff.1 h1).1
                    simp at this; omega
                  rw [List.getElem?_take_of_lt hjl, List.getElem?_drop] at h1
                  exact h1
                have := hrng (off + j) _ h2
                rw [Nat.zero_add] at this
                exact this
          · cases hq
        · cases hq
      · cases hq
end Go.Sx
