/- A symbolic evaluator of closed terms: one operation says what the model says. -/
import Derived.Test.YtpainjecdolgiaaSxC
namespace Go.Sx
open Go Go.RowKit Go.Flo Go.Mem Go.Proofs.Ytpainjecdolgiaa
set_option linter.unusedVariables false
set_option linter.unusedSimpArgs false

/-- what is read: blocks that lie in the world -/
def ReadOk (e : E) (W : World) (M : Mm) : Prop := ∃ r : Blocks, F2 (Br e) M r ∧ ∀ x ∈ r, x.1 < W.heap.size ∧ W.rangeAt x.1 0 x.2
theorem ReadOk.mono {e e' : E} {W : World} {M : Mm} (h : ReadOk e W M) (hl : e.le e') : ReadOk e' W M := by
  obtain ⟨r, h1, h2⟩ := h; exact ⟨r, h1.mono fun _ _ => Br.mono hl, h2⟩
theorem ReadOk.look {e : E} {W : World} {M : Mm} (h : ReadOk e W M) {id : Nat} {cs : List C} (hl : look id M = some cs) : ∃ vs, F2 (Cr e) cs vs ∧ e.ms id < W.heap.size ∧ W.rangeAt (e.ms id) 0 vs ∧ e.K id := by
  obtain ⟨r, h1, h2⟩ := h
  obtain ⟨vs, g1, g2, g3⟩ := F2.mem_look h1 hl
  exact ⟨vs, g2, (h2 _ g1).1, (h2 _ g1).2, g3⟩

structure Pre (env : Nat → Sc) (X : Ctx) (M : Mm) (tm : List A) (t : Tb) (nid top : Nat) (ms : Nat → Nat) (K : Nat → Prop) (a : Act) (W : World) : Prop where
  wf : WF t
  rd : ReadOk (mkE env t ms K) W M
  tm : TmOk (mkE env t ms K) tm a
  fresh : ∀ i, nid ≤ i → i < top → ¬ K i
  facts : FactsOk env t.fs t
/-- what an operation, or a call, leaves -/
def Done (env : Nat → Sc) (t : Tb) (nid top : Nat) (ms : Nat → Nat) (K : Nat → Prop) (W : World) (r : A × Mm × Nat × Tb) (v' : Value) (W' : World) : Prop :=
  ∃ ms' K' nl, Ext env t r.2.2.2 ∧ (∀ i, K i → K' i ∧ ms' i = ms i) ∧ (∀ i, K' i → K i ∨ (nid ≤ i ∧ i < r.2.2.1 ∧ i < top)) ∧ nid ≤ r.2.2.1 ∧
    Ar (mkE env r.2.2.2 ms' K') r.1 v' ∧ Mem W W' [] nl ∧ F2 (Br (mkE env r.2.2.2 ms' K')) r.2.1 nl
def CallOk (env : Nat → Sc) (X : Ctx) : Prop := ∀ f args M t nid top r, (X.call f args M t nid top).sel env = some r → ∀ ms K vs W, WF t → ReadOk (mkE env t ms K) W M → F2 (Ar (mkE env t ms K)) args vs → (∀ i, nid ≤ i → i < top → ¬ K i) → FactsOk env t.fs t →
  Calls X.P f vs.toArray W fun e W' => ∃ v', e = .returned v' ∧ Done env t nid top ms K W r v' W'

section
variable {env : Nat → Sc} {ms : Nat → Nat} {K : Nat → Prop}
theorem done_same {t t' : Tb} {nid top : Nat} {W : World} {v : A} {v' : Value} (n : Nat) (e : Ext env t t') (h : Ar (mkE env t' ms K) v v') : Done env t nid top ms K W (v, [], nid, t') v' (W.drewN n) :=
  ⟨ms, K, [], e, fun i h => ⟨h, rfl⟩, fun i h => .inl h, Nat.le_refl _, h, (Mem.start W).draws n, .nil⟩
theorem done_new {t t' : Tb} {nid top : Nat} {W : World} {cs : List C} {ty : TypeId} {v : Value} (e : Ext env t t') (hf : ∀ i, nid ≤ i → i < top → ¬ K i) (hn : nid < top) (h : F2 (Cr (mkE env t' ms K)) cs v.cells.toList) :
    Done env t nid top ms K W (.p (.one (.ptr nid 0)), [(nid, cs)], nid + 1, t') (.pointer (some ⟨W.heap.size, 0, none⟩)) (W.alloc (.cells v.cells ty)) := by
  have hk : ¬ K nid := hf nid (Nat.le_refl _) hn
  have hle : (mkE env t' ms K).le (mkE env t' (fun i => if i = nid then W.heap.size else ms i) (fun i => K i ∨ i = nid)) :=
    ⟨Nat.le_refl _, fun _ _ => rfl, fun i hi => .inl hi, fun i hi => by
      show (if i = nid then W.heap.size else ms i) = ms i
      exact if_neg (fun h => hk (by subst h; exact hi))⟩
  have hms : (mkE env t' (fun i => if i = nid then W.heap.size else ms i) (fun i => K i ∨ i = nid)).ms nid = W.heap.size := by show (if nid = nid then _ else _) = _; rw [if_pos rfl]
  refine ⟨_, _, [(W.heap.size, v.cells.toList)], e, fun i hi => ⟨hle.K i hi, hle.ms i hi⟩, fun i hi => ?_, Nat.le_succ _, ⟨.inr rfl, ?_⟩, (Mem.start W).alloc v.cells ty, .cons ⟨.inr rfl, hms.symm, h.mono fun _ _ => Cr.mono hle⟩ .nil⟩
  · rcases hi with hi | rfl
    · exact .inl hi
    · exact .inr ⟨Nat.le_refl _, Nat.lt_succ_self _, hn⟩
  · show _ = Value.pointer (some ⟨(if nid = nid then W.heap.size else ms nid), 0, none⟩)
    rw [if_pos rfl]

theorem newBlock_ok {env : Nat → Sc} {nid top : Nat} {cs : List C} {t : Tb} {r : A × Mm × Nat × Tb} (h : (newBlock nid top cs t).sel env = some r) : nid < top ∧ r = (.p (.one (.ptr nid 0)), [(nid, cs)], nid + 1, t) := by
  unfold newBlock at h
  cases hc : Nat.blt nid top <;> rw [hc] at h <;> simp only [cond_true, cond_false] at h
  · cases h
  · cases h; exact ⟨by unfold Nat.blt at hc; exact Nat.le_of_ble_eq_true hc, rfl⟩

theorem rowN_row {P : Program} {t : TypeId} {n : Nat} (h : rowN P t = some n) : row P t n = true := by
  unfold rowN at h
  unfold row
  split at h
  · rename_i d i hd hi
    rw [hd]
    split at h
    · rename_i hr
      cases h
      simp [hr, hi]
    · cases h
  · cases h
theorem beq_eq {n m : Nat} (h : Nat.beq n m = true) : n = m := Nat.eq_of_beq_eq_true h
theorem takeC_cases {Pm : Program} {ty : TypeId} {cs : List C} {off : Nat} {y : Sx.P} (h : takeC Pm ty cs off = some y) :
    (∃ n, rowN Pm ty = some n ∧ (subC cs off n).length = n ∧ y = .agg (subC cs off n)) ∨ (one Pm ty = true ∧ ∃ c, cs[off]? = some c ∧ y = .one c) := by
  unfold takeC at h
  split at h
  · rename_i n hn
    cases hb : Nat.beq (subC cs off n).length n <;> rw [hb] at h <;> simp only [cond_true, cond_false] at h
    · cases h
    · cases h; exact .inl ⟨n, hn, beq_eq hb, rfl⟩
  · cases h1 : one Pm ty <;> rw [h1] at h <;> simp only [cond_true, cond_false] at h
    · cases h
    · split at h
      · rename_i c hcell; cases h; exact .inr ⟨rfl, c, hcell, rfl⟩
      · cases h
/-- a load, of a row or of one cell -/
theorem load_sound {Pm : Program} {e : E} {W : World} {ty : TypeId} {b off : Nat} {cs : List C} {vs : List Value} (hr : W.rangeAt b 0 vs) (hc : F2 (Cr e) cs vs) {y : Sx.P} (h : takeC Pm ty cs off = some y) :
    ∃ v, (Instr.loadAt ty (.pointer (some ⟨b, off, none⟩))).run Pm W = .ok v W ∧ Pr e y v := by
  rcases takeC_cases h with ⟨n, hn, hl, rfl⟩ | ⟨h1, c, hcell, rfl⟩
  · have hs := F2.sub off n hc
    exact ⟨_, run_load_row hr (rowN_row hn) rfl (by rw [← F2.length hs]; exact hl), _, rfl, hs⟩
  · obtain ⟨v, hv, hr2⟩ := hc.get hcell
    exact ⟨v, run_load_one hr h1 hv, hr2⟩
theorem sub_extract : ∀ (vs : List Value) (off n : Nat), Mem.sub vs off n = (vs.drop off).take n
  | vs, off, 0 => by cases vs <;> cases off <;> simp [Mem.sub]
  | [], off, n + 1 => by cases off <;> simp [Mem.sub]
  | v :: vs, 0, n + 1 => by
    have := sub_extract vs 0 n
    simp [Mem.sub, this]
  | v :: vs, off + 1, n + 1 => by
    have := sub_extract vs off (n + 1)
    simp [Mem.sub, this]
theorem part_sound {Pm : Program} {e : E} {W : World} {ty : TypeId} {off : Nat} {cs : List C} {vs : List Value} (hc : F2 (Cr e) cs vs) {y : Sx.P} (h : takeC Pm ty cs off = some y) :
    ∃ v, (part ty vs.toArray off).run Pm W = .ok v W ∧ Pr e y v := by
  rcases takeC_cases h with ⟨n, hn, hl, rfl⟩ | ⟨h1, c, hcell, rfl⟩
  · have hs := F2.sub off n hc
    obtain ⟨d, hu, hd, hi⟩ := row_spec (rowN_row hn)
    have hagg : (isAgg ty).run Pm W = .ok true W := by
      unfold isAgg
      rw [Sem.run_bind, run_underlying hu W]
      cases d <;> simp_all [TypeDesc.isRow]
    have hsz : (sizeOf ty).run Pm W = .ok n W := by
      cases hq : Pm.info? ty with
      | none => simp [hq] at hi
      | some i => simp [hq] at hi; simp [sizeOf, typeInfo, hq, Sem.run_bind, hi]
    refine ⟨.agg (Mem.sub vs off n).toArray, ?_, _, rfl, hs⟩
    unfold part
    simp only [Sem.run_bind, hagg, Result.andThen_ok, if_true, hsz, Sem.run_pure]
    congr 2
    rw [sub_extract]
    apply Array.ext'
    simp [Array.toList_extract, List.extract]
  · obtain ⟨v, hv, hr2⟩ := hc.get hcell
    obtain ⟨d, hu, hd, hi⟩ := one_spec h1
    have hagg : (isAgg ty).run Pm W = .ok false W := by
      unfold isAgg
      rw [Sem.run_bind, run_underlying hu W]
      cases d <;> simp_all [TypeDesc.isRow]
    refine ⟨v, ?_, hr2⟩
    unfold part
    simp [Sem.run_bind, hagg, hv]
end
end Go.Sx
