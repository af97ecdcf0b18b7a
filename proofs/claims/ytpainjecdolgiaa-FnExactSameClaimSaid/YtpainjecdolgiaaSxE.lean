/- A symbolic evaluator of closed terms: each operation but a store says what the model says. -/
import Derived.Test.YtpainjecdolgiaaSxD
import Derived.Test.YtpainjecdolgiaaSxX
import Derived.Laws.Tables
import Derived.Laws.Cover3
import Derived.Laws.Slices
import Derived.Laws.StructEq
import Derived.ChangeKeysEq
namespace Go.Sx
open Go Go.RowKit Go.Flo Go.Mem Go.Proofs.Ytpainjecdolgiaa
set_option linter.unusedVariables false
set_option linter.unusedSimpArgs false

section
variable {env : Nat → Sc} {ms : Nat → Nat} {K : Nat → Prop}
theorem splice_set : ∀ (L : List Value) (p : Nat) (c : Value) (l : List Value), p < L.length → Mem.splice (L.set p c) (p + 1) l = Mem.splice L p (c :: l)
  | [], p, c, l, h => by simp at h
  | x :: L, 0, c, l, _ => by
    cases l with
    | nil => cases L <;> rfl
    | cons y l => rfl
  | x :: L, p + 1, c, l, h => by
    have := splice_set L p c l (by simpa using h)
    cases l with
    | nil =>
      simp only [List.set_cons_succ, Mem.splice] at this ⊢
      rw [← this]
    | cons y l => simpa [Mem.splice] using this
theorem fold_splice (off : Nat) : ∀ (l : List Value) (k : Nat) (cells : Array Value), off + k + l.length ≤ cells.size →
    ((l.zipIdx k).foldl (fun cs (x : Value × Nat) => cs.setIfInBounds (off + x.2) x.1) cells).toList = Mem.splice cells.toList (off + k) l
  | [], k, cells, _ => by
    simp only [List.zipIdx_nil, List.foldl_nil]
    cases cells.toList <;> rfl
  | c :: l, k, cells, h => by
    simp only [List.zipIdx_cons, List.foldl_cons]
    rw [fold_splice off l (k + 1) _ (by simp at h ⊢; omega)]
    rw [Array.toList_setIfInBounds, ← Nat.add_assoc]
    exact splice_set _ _ _ _ (by simp at h ⊢; omega)
theorem fillC_sound {e : E} (place : Nat → Option (Nat × Nat)) : ∀ {ps : List (Nat × Sx.P)} {qs : List (Nat × Value)} {cells cs : List C} {vs : Array Value}, F2 (Kr e) ps qs → F2 (Cr e) cells vs.toList → fillC place cells ps = some cs → ∃ out, Instr.fill place vs qs = some out ∧ F2 (Cr e) cs out.toList
  | _, _, cells, cs, vs, .nil, hc, h => by cases h; exact ⟨vs, rfl, hc⟩
  | _, _, cells, cs, vs, .cons (a := (i, v)) (b := (j, w)) (l := ps) (m := qs) ⟨hij, hv⟩ ht, hc, h => by
    cases hij
    unfold fillC at h
    split at h
    · cases h
    · rename_i off size hp
      cases hb : (Nat.beq v.cells.length size && Nat.ble (off + v.cells.length) cells.length) <;> rw [hb] at h <;> simp only [cond_true, cond_false] at h
      · cases h
      · simp only [Bool.and_eq_true] at hb
        have hl := F2.length hv.cells
        have h1 := beq_eq hb.1
        have h2 := Nat.le_of_ble_eq_true hb.2
        have h3 := F2.length hc
        have hsz : w.cells.size = size := by rw [← h1, hl]; simp
        have hle : ¬ ((decide (w.cells.size ≠ size) || decide (off + w.cells.size > vs.size)) = true) := by
          have : vs.toList.length = vs.size := by simp
          simp [hsz]; omega
        have key : (w.cells.zipIdx.foldl (fun cs (x : Value × Nat) => cs.setIfInBounds (off + x.2) x.1) vs).toList = Mem.splice vs.toList off w.cells.toList := by
          rw [← Array.foldl_toList, Array.toList_zipIdx]
          have : vs.toList.length = vs.size := by simp
          have := fold_splice off w.cells.toList 0 vs (by simp; omega)
          simpa using this
        obtain ⟨out, ho, hr⟩ := fillC_sound place (vs := w.cells.zipIdx.foldl (fun cs (x : Value × Nat) => cs.setIfInBounds (off + x.2) x.1) vs) ht (by rw [key]; exact F2.splice off hc hv.cells) h
        refine ⟨out, ?_, hr⟩
        unfold Instr.fill
        simp only [hp]
        rw [if_neg hle]
        exact ho
theorem placesOf_built {Pm : Program} {ty : TypeId} {z : Value} {pl : Nat → Option (Nat × Nat)} (h : placesOf Pm ty = some (z, pl)) (ps : List (Nat × Value)) : Pm.built ty ps = Instr.fill pl z.cells ps := by
  unfold placesOf at h
  unfold Program.built
  split at h
  · rename_i it n e h1 h2
    rw [h1, h2]
    simp only
    split at h
    · rename_i z' ie g1 g2
      cases h
      simp only [g1, g2]
    · cases h
  · rename_i it fields h1 h2
    rw [h1, h2]
    simp only
    split at h
    · rename_i z' pl' g1 g2
      cases h
      simp only [g1, g2]
    · cases h
  · cases h

theorem upto {op : Oper} {a : Act} {W : World} {Pm : Program} {Kont : Act → World → Prop} {Q : Exit → Act → World → Prop} {v : Value} {n : Nat} (h : (execOp a.eval op).run Pm W = .ok (.value v) (W.drewN n)) (hK : Kont (a.put op.dst v) (W.drewN n)) : Oper.wp Pm op a W Kont Q := by
  unfold Oper.wp; rw [h]; exact hK

theorem capsOf_sound {e : E} : ∀ {l : List A} {ids : List Nat} {vs : List Value}, capsOf l = some ids → F2 (Ar e) l vs → (∀ id ∈ ids, e.K id) ∧ vs = ids.map fun id => .pointer (some ⟨e.ms id, 0, none⟩)
  | [], ids, vs, h, hf => by
    cases h; cases hf; exact ⟨fun id h => (by cases h), rfl⟩
  | x :: l, ids, vs, h, hf => by
    unfold capsOf at h
    split at h
    · rename_i id
      split at h
      · rename_i r hr
        cases h
        cases hf with
        | cons h1 h2 =>
          obtain ⟨g1, g2⟩ := capsOf_sound hr h2
          obtain ⟨k1, k2⟩ := h1
          refine ⟨fun i hi => ?_, ?_⟩
          · rcases List.mem_cons.1 hi with rfl | hi
            · exact k1
            · exact g1 i hi
          · rw [g2, k2]; rfl
      · cases h
    · cases h
theorem caps_args {e : E} : ∀ {caps : List Nat}, (∀ id ∈ caps, e.K id) → F2 (Ar e) (caps.map fun id => A.p (.one (.ptr id 0))) (caps.map fun id => Value.pointer (some ⟨e.ms id, 0, none⟩))
  | [], _ => .nil
  | id :: caps, h => .cons ⟨h id List.mem_cons_self, rfl⟩ (caps_args fun i hi => h i (List.mem_cons_of_mem _ hi))
theorem F2.append_map {e : E} {l m : List A} {vs us : List Value} (h : F2 (Ar e) l vs) (g : F2 (Ar e) m us) : F2 (Ar e) (l ++ m) (vs ++ us) := h.append g

theorem neg_cv (b : Nat) : kcv .f32 (Op.negFloat .f32 b) = (kcv .f32 b).map (Op.negFloat .f32) := by
  have hr : rung FloatKind.f32.format (Op.negFloat .f32 b) = rung FloatKind.f32.format b := by
    unfold rung Op.negFloat
    have hs : FloatKind.f32.format.signWeight = 2 ^ 31 := by decide
    have he : FloatKind.f32.format.exponentBits + FloatKind.f32.format.fractionBits = 31 := by decide
    rw [hs, he, Nat.xor_mod_two_pow]
    simp
  unfold kcv cv
  rw [hr]
  split <;> rfl
theorem rep_cells {e : E} {cs : List C} {vs : List Value} (h : F2 (Cr e) cs vs) : ∀ n, F2 (Cr e) (List.replicate n cs).flatten (List.replicate n vs).flatten
  | 0 => .nil
  | n + 1 => by
    rw [List.replicate_succ, List.replicate_succ, List.flatten_cons, List.flatten_cons]
    exact h.append (rep_cells h n)
theorem range_cells (z : Array Value) (n m : Nat) (hz : z.size = m) (hm : 0 < m) : (Array.range (n * m)).map (fun x => z[x % z.size]!) = ((List.replicate n z.toList).flatten).toArray := by
  apply Array.ext'
  rw [Array.toList_map, Array.toList_range]
  subst hz
  induction n with
  | zero => simp
  | succ n ih =>
    rw [Nat.succ_mul, Nat.add_comm, List.range_add, List.map_append, List.replicate_succ, List.flatten_cons]
    have h1 : (List.range z.size).map (fun x => z[x % z.size]!) = z.toList := by
      apply List.ext_getElem (by simp)
      intro i h1 h2
      simp at h1 h2
      simp [Nat.mod_eq_of_lt h1, h1]
    have h2 : ((List.range (n * z.size)).map (fun x => z.size + x)).map (fun x => z[x % z.size]!) = (List.replicate n z.toList).flatten := by
      rw [List.map_map]
      have : ((fun x => z[x % z.size]!) ∘ fun x => z.size + x) = fun x => z[x % z.size]! := by
        funext x; simp
      rw [this]
      simpa using ih
    rw [h1, h2]
theorem meth_run {Pm : Program} {ty : TypeId} {name : String} {f : FuncId} (h : methOf Pm ty name = some f) {n : Nat} {v : Value} {w : World} : (method (n + Made.depth) ty v name).run Pm w = .ok (f, v) w := by
  have hd : ∃ m, n + Made.depth = m + 1 := ⟨n + Made.depth - 1, by have : 0 < Made.depth := by decide
                                                                   omega⟩
  obtain ⟨m, hm⟩ := hd
  rw [hm]
  unfold methOf at h
  split at h
  · rename_i i hi
    have hti : (typeInfo ty).run Pm w = .ok i w := by simp [typeInfo, hi]
    split at h
    · rename_i mm hmm
      cases hp : mm.path.isEmpty <;> rw [hp] at h <;> simp only [cond_true, cond_false] at h
      · cases h
      · have hpath : mm.path.toList = [] := by
          have : mm.path = #[] := by simpa using hp
          rw [this]
        unfold method
        simp only [Sem.run_bind, hti, Result.andThen_ok, hmm, hpath, follow, Sem.run_pure]
        split at h
        · rename_i f' el hfn hu
          cases h
          simp only [hfn, receiverAt, Sem.run_bind, run_underlying hu, Result.andThen_ok, Place.get, Sem.run_pure]
        · rename_i f' d hfn hu
          split at h
          · cases h
          · rename_i hd
            cases h
            simp only [hfn, receiverAt, Sem.run_bind, run_underlying hu, Result.andThen_ok]
            cases d <;> first | exact absurd rfl (hd _) | (simp only [Place.get, Sem.run_pure, Sem.run_bind, Result.andThen_ok]; done)
        · cases h
    · cases h
  · cases h
theorem invoke_method (recv : Value) (name : String) (args : Array Value) : invoke (.fn (.method name) #[]) (#[recv] ++ args) = callMethod recv name args := by
  have h1 : (#[recv] ++ args)[0]? = some recv := by simp [Array.getElem?_append]
  have h2 : (#[recv] ++ args).extract 1 (#[recv] ++ args).size = args := by
    apply Array.ext'
    simp [Array.toList_extract, List.extract]
  unfold invoke
  simp only [h1, h2]
theorem callMethod_run {Pm : Program} {ty : TypeId} {name : String} {f : FuncId} (h : methOf Pm ty name = some f) {v : Value} {args : Array Value} {w : World} : (callMethod (.iface ty v) name args).run Pm w = (callFunc f (#[v] ++ args)).run Pm w := by
  unfold callMethod
  have hprog : (program).run Pm w = .ok Pm w := rfl
  simp only [Sem.run_bind, hprog, Result.andThen_ok]
  rw [meth_run h]
  rfl
theorem eqNums_sound {Pm : Program} {el : TypeId} {kd : IntKind} (hu : Pm.underlying el = some (.int kd)) (d : Nat) {cs ds : List C} {vs us : List Value} : ∀ {js : List Nat} {t : Tb} {r : Bool × Tb} {W : World}, (eqNums Pm el cs ds js t).sel env = some r → WF t → FactsOk env t.fs t → F2 (Cr (mkE env t ms K)) cs vs → F2 (Cr (mkE env t ms K)) ds us →
    (Op.eqItems (d + 1) el 1 vs.toArray us.toArray js).run Pm W = .ok r.1 W
  | [], t, r, W, h, hw, hf, hc, hd => by cases h; rfl
  | j :: js, t, r, W, h, hw, hf, hc, hd => by
    unfold eqNums at h
    split at h
    · rename_i k a k' b h1 h2
      split at h
      · rename_i hk
        subst hk
        have q := Res.bind_ok h; clear h; obtain ⟨⟨u, t1⟩, h3, h⟩ := q
        obtain ⟨v, p1, i1, rfl⟩ := part_sound (W := W) hc h1
        obtain ⟨v2, p2, i2, rfl⟩ := part_sound (W := W) hd h2
        obtain ⟨e1, e2, e3⟩ := intern_spec (env := env) (x := ⟨34, a, b⟩) hw (.inr ⟨i1, i2⟩)
        have hs := truth_sound (env := env) (ms := ms) (K := K) h3 e1.wf (e1.fk hf) (v := .bool ((den env (intern ⟨34, a, b⟩ t).2.l (intern ⟨34, a, b⟩ t).1).bv == true)) ⟨e2, rfl⟩
        have e4 := e1.trans (truth_ext h3 e1.wf)
        rw [e3] at hs
        have hbv : (ev env (den env (intern ⟨34, a, b⟩ t).2.l) ⟨34, a, b⟩).bv = ((den env t.l a).iv == (den env t.l b).iv) := by
          show ((den env _ a).iv == (den env _ b).iv) = _
          rw [e1.den a i1, e1.den b i2]
        rw [hbv] at hs
        simp only [Value.bool.injEq, beq_true] at hs
        have q3 : (Op.equalIn (d + 1) el (.int k (den env t.l a).iv) (.int k (den env t.l b).iv)).run Pm W = .ok u W := by
          rw [run_equalIn_int W d el k kd _ _ hu, hs]
        unfold Op.eqItems
        simp only [Nat.mul_one]
        rw [Sem.run_bind, p1]; simp only [Result.andThen_ok]
        rw [Sem.run_bind, p2]; simp only [Result.andThen_ok]
        rw [Sem.run_bind]
        show (((Op.equalIn (d + 1) el (.int k (den env t.l a).iv) (.int k (den env t.l b).iv)).run Pm W).andThen _) = _
        rw [q3]; simp only [Result.andThen_ok]
        cases u <;> simp only [cond_true, cond_false] at h
        · cases h; rfl
        · have := eqNums_sound hu d (W := W) h e4.wf (e4.fk hf) (hc.mono fun _ _ => Cr.mono (e4.up ms K)) (hd.mono fun _ _ => Cr.mono (e4.up ms K))
          simpa using this
      · cases h
    · cases h
theorem optInt_sound {tm : List A} {t t' : Tb} {a : Act} {x : Option Operand} {r : Option (IntKind × Int)} (h : optInt tm t x = some (r, t')) (hw : WF t) (htm : TmOk (mkE env t ms K) tm a) : Ext env t t' ∧ x.map a.eval = r.map fun y => .int y.1 y.2 := by
  unfold optInt at h
  split at h
  · cases h; exact ⟨Ext.refl hw, rfl⟩
  · split at h
    · rename_i k n t1 h1
      cases h
      obtain ⟨e1, r1⟩ := cell1_sound h1 hw htm
      exact ⟨e1, congrArg some r1⟩
    · cases h
theorem cut_sound {Pm : Program} {ty el : TypeId} {n : Nat} {i : TypeInfo} (hu : Pm.underlying ty = some (.array n el)) (hi : Pm.info? el = some i) {lo hi' : Option (IntKind × Int)} {l h : Nat} (hc : cutOf lo hi' n = some (l, h)) (p : Addr) (W : World) :
    (Instr.sliceAt ty (.pointer (some p)) (lo.map fun y => .int y.1 y.2) (hi'.map fun y => .int y.1 y.2) none).run Pm W = .ok (.slice (some (if n = l then p else p.add (l * i.size))) (h - l) (n - l)) W := by
  have hA : Pm.arrayLen ty = n := by simp [Program.arrayLen, hu]
  have hE : Pm.elem ty = el := by simp [Program.elem, hu]
  have ht : Pm.underlying ty = some (.array (Pm.arrayLen ty) (Pm.elem ty)) := by rw [hA, hE]; exact hu
  have hs : ∀ w, (sizeOf el).run Pm w = .ok i.size w := fun w => by simp [sizeOf, typeInfo, hi, Sem.run_bind]
  unfold cutOf at hc
  split at hc
  · cases hc
    rw [show (Option.map _ (none : Option (IntKind × Int))) = none from rfl]
    rw [run_sliceAt_array_all W ty p ht, hE, hs, hA]; rfl
  · rename_i k h'
    generalize hb : Nat.ble _ _ = bb at hc
    cases bb <;> simp only [cond_true, cond_false] at hc <;> cases hc
    have := Nat.le_of_ble_eq_true hb
    show (Instr.sliceAt ty (.pointer (some p)) none (some (.int k (Int.ofNat h))) none).run Pm W = _
    rw [run_sliceAt_array_h W ty p ht k (Int.ofNat h) (Int.natCast_nonneg _) (by rw [hA]; exact Int.ofNat_le.2 this), hE, hs, hA]; rfl
  · rename_i k l'
    generalize hb : Nat.ble _ _ = bb at hc
    cases bb <;> simp only [cond_true, cond_false] at hc <;> cases hc
    have := Nat.le_of_ble_eq_true hb
    show (Instr.sliceAt ty (.pointer (some p)) (some (.int k (Int.ofNat l))) none none).run Pm W = _
    rw [run_sliceAt_array_l W ty p ht k (Int.ofNat l) (Int.natCast_nonneg _) (by rw [hA]; exact Int.ofNat_le.2 this), hE, hs, hA]; rfl
  · rename_i k l' k' h'
    generalize hb : (Nat.ble _ _ && Nat.ble _ _) = bb at hc
    cases bb <;> simp only [cond_true, cond_false] at hc <;> cases hc
    simp only [Bool.and_eq_true] at hb
    have h1 := Nat.le_of_ble_eq_true hb.1
    have h2 := Nat.le_of_ble_eq_true hb.2
    show (Instr.sliceAt ty (.pointer (some p)) (some (.int k (Int.ofNat l))) (some (.int k' (Int.ofNat h))) none).run Pm W = _
    rw [run_sliceAt_array_lh W ty p ht k k' (Int.ofNat l) (Int.ofNat h) (Int.natCast_nonneg _) (Int.ofNat_le.2 h1) (by rw [hA]; exact Int.ofNat_le.2 h2), hE, hs, hA]; rfl
  · cases hc
theorem guard_agg {Pm : Program} {op : BinOp} {ty : TypeId} (X Y : Operand) (vs us : Array Value) (hg : Pm.eqGuardType Pm.depth ty = false) (W : World) : (eqGuard op ty X Y (.agg vs) (.agg us)).run Pm W = .ok () W := by
  cases op <;> first | rfl | (unfold eqGuard; simp [Sem.run_bind, hg]; done) | skip
theorem act_sound {X : Ctx} (hX : CallOk env X) {M : Mm} {tm : List A} {t : Tb} {nid top : Nat} {o : Oper} {r : A × Mm × Nat × Tb} {a : Act} {W : World} (h : (act X M tm t nid top o).sel env = some r) (hp : Pre env X M tm t nid top ms K a W)
    {Kont : Act → World → Prop} {Q : Exit → Act → World → Prop} (hK : ∀ v' W', Done env t nid top ms K W r v' W' → Kont (a.put o.dst v') W') : Oper.wp X.P o a W Kont Q := by
  obtain ⟨hw, hrd, htm, hfr, hfs⟩ := hp
  unfold act at h
  split at h
  -- move
  · rename_i x ho
    unfold actMove at h
    have q := Res.bind_ok h; clear h; obtain ⟨⟨v, t1⟩, h1, h2⟩ := q
    cases h2
    obtain ⟨e1, r1⟩ := opnd_sound (ofOpt_ok h1) hw htm
    exact Inv.wp_move (.inl ho) rfl (hK _ _ (done_same 0 e1 r1))
  -- assign
  · rename_i x ho
    unfold actAssign at h
    have q := Res.bind_ok h; clear h; obtain ⟨⟨v, t1⟩, h1, h2⟩ := q
    cases h2
    obtain ⟨e1, r1⟩ := opnd_sound (ofOpt_ok h1) hw htm
    exact Inv.wp_move (.inr ho) rfl (hK _ _ (done_same 0 e1 r1))
  -- pick
  · rename_i c x y ho
    unfold actPick at h
    have q := Res.bind_ok h; clear h; obtain ⟨⟨cc, t1⟩, h1, h⟩ := q
    have q := Res.bind_ok h; clear h; obtain ⟨b, h2, h⟩ := q
    have q := Res.bind_ok h; clear h; obtain ⟨⟨v, t2⟩, h3, h⟩ := q
    cases h
    obtain ⟨e1, r1⟩ := cell1_sound (ofOpt_ok h1) hw htm
    have hb := truth_sound (ms := ms) (K := K) h2 e1.wf (e1.fk hfs) r1
    have e1' := e1.trans (truth_ext h2 e1.wf)
    obtain ⟨e2, r2⟩ := opnd_sound (ofOpt_ok h3) e1'.wf (tm_up e1' htm)
    refine Inv.wp_pick ho hb rfl (hK _ _ (done_same 0 (e1'.trans e2) ?_))
    obtain ⟨b, tb⟩ := b
    cases b <;> exact r2
  -- alloc
  · rename_i ty ho
    unfold actAlloc at h
    split at h
    · rename_i z hz
      have q := Res.bind_ok h; clear h; obtain ⟨⟨x, t1⟩, h1, h⟩ := q
      obtain ⟨hlt, rfl⟩ := newBlock_ok h
      obtain ⟨e1, r1⟩ := partOf_sound (ms := ms) (K := K) (ofOpt_ok h1) hw
      have hzr : ∀ w, (zeroValue ty).run X.P w = .ok z w := fun w => by
        cases hi : X.P.info? ty with
        | none => simp [hi] at hz
        | some i =>
          simp [hi] at hz
          simp [zeroValue, typeInfo, hi, hz, Sem.run_bind]
      have : (execOp a.eval o).run X.P W = .ok (.value (.pointer (some ⟨W.heap.size, 0, none⟩))) (W.alloc (.cells z.cells ty)) := by
        unfold execOp
        simp only [ho, Instr.alloc, newVar, newRow, Sem.run_bind, hzr, run_newObj_alloc, Result.andThen_ok, Sem.run_pure]
      unfold Oper.wp; rw [this]
      exact hK _ _ (done_new e1 hfr hlt r1.cells)
    · cases h
  -- box
  · rename_i ty x ho
    unfold actBox at h
    have q := Res.bind_ok h; clear h; obtain ⟨⟨x1, t1⟩, h1, h⟩ := q
    obtain ⟨hlt, rfl⟩ := newBlock_ok h
    obtain ⟨e1, r1⟩ := part1_sound (ofOpt_ok h1) hw htm
    have : (execOp a.eval o).run X.P W = .ok (.value (.pointer (some ⟨W.heap.size, 0, none⟩))) (W.alloc (.cells (a.eval x).cells ty)) := by
      unfold execOp
      simp only [ho, Instr.box, newVar, newRow, Sem.run_bind, run_newObj_alloc, Result.andThen_ok, Sem.run_pure]
    unfold Oper.wp; rw [this]
    exact hK _ _ (done_new e1 hfr hlt r1.cells)
  -- load
  · rename_i ty x ho
    unfold actLoad at h
    have q := Res.bind_ok h; clear h; obtain ⟨⟨x1, t1⟩, h1, h⟩ := q
    obtain ⟨e1, r1⟩ := cell1_sound (ofOpt_ok h1) hw htm
    simp only at h
    split at h
    · rename_i id off
      split at h
      · rename_i cs hl
        have q := Res.bind_ok h; clear h; obtain ⟨y, h3, h⟩ := q
        cases h
        obtain ⟨vs, g1, g2, g3, g4⟩ := (hrd.mono (e1.up ms K)).look hl
        obtain ⟨v, hv, hr⟩ := load_sound (Pm := X.P) (ty := ty) (W := W) g3 g1 (ofOpt_ok h3)
        obtain ⟨_, hx⟩ := r1
        refine Mem.wp_val ?_ (hK v W (done_same 0 e1 hr))
        unfold execOp
        simp only [ho, hx, Sem.run_bind, hv, Result.andThen_ok, Sem.run_pure]
      · cases h
    · cases h
  -- nilCheck
  · rename_i x ho
    unfold actNilCheck at h
    have q := Res.bind_ok h; clear h; obtain ⟨⟨x1, t1⟩, h1, h⟩ := q
    obtain ⟨e1, r1⟩ := cell1_sound (ofOpt_ok h1) hw htm
    simp only at h
    split at h
    · rename_i id off
      cases h
      have r0 := r1
      obtain ⟨_, hx⟩ := r1
      exact Inv.wp_nilCheck ho hx (hK _ _ (done_same 0 e1 ⟨r0.1, rfl⟩))
    · cases h
  -- fieldAddr
  · rename_i ty x k ho
    unfold actFieldAddr at h
    have q := Res.bind_ok h; clear h; obtain ⟨⟨x1, t1⟩, h1, h⟩ := q
    obtain ⟨e1, r1⟩ := cell1_sound (ofOpt_ok h1) hw htm
    simp only at h
    split at h
    · rename_i id off fs hu
      split at h
      · rename_i f hf
        split at h
        · rename_i i hi
          cases hb : Nat.beq i.size 0 <;> rw [hb] at h <;> simp only [cond_true, cond_false] at h
          · cases h
            obtain ⟨hk, hx⟩ := r1
            have hne : i.size ≠ 0 := fun hz => by rw [hz] at hb; cases hb
            refine Inv.wp_fieldAddr (u := .pointer (some ⟨ms id, off + f.offset, none⟩)) ho hx (fun w => ?_) (hK _ _ (done_same 0 e1 ⟨hk, rfl⟩))
            have hsz : (sizeOf f.type).run X.P w = .ok i.size w := by simp [sizeOf, typeInfo, hi]
            unfold Instr.fieldAt
            simp only [Sem.run_bind, run_underlying hu, Result.andThen_ok, hf, Instr.sureAddr, fieldPlace, hsz, if_neg hne, Sem.run_pure]
            unfold Addr.add
            by_cases hz : f.offset = 0
            · simp [hz]; rfl
            · simp [hz]; rfl
          · cases h
        · cases h
      · cases h
    · cases h
  -- indexAddr
  · rename_i ty x y ho
    unfold actIndexAddr at h
    have q := Res.bind_ok h; clear h; obtain ⟨⟨x1, t1⟩, h1, h⟩ := q
    have q := Res.bind_ok h; clear h; obtain ⟨⟨y1, t2⟩, h2, h⟩ := q
    obtain ⟨e1, r1⟩ := cell1_sound (ofOpt_ok h1) hw htm
    obtain ⟨e2, r2⟩ := cell1_sound (ofOpt_ok h2) e1.wf (tm_up e1 htm)
    simp only at h
    split at h
    · rename_i id off k n len el hu
      split at h
      · rename_i i hi
        cases hb : Nat.blt n len <;> rw [hb] at h <;> simp only [cond_true, cond_false] at h
        · cases h
        · cases h
          obtain ⟨hk, hx⟩ := r1
          have hy : a.eval y = .int k (Int.ofNat n) := r2
          have hlt : n < len := by unfold Nat.blt at hb; exact Nat.le_of_ble_eq_true hb
          refine Inv.wp_indexAddr (u := .pointer (some ⟨ms id, off + n * i.size, none⟩)) ho hx hy (fun w => ?_) (hK _ _ (done_same 0 (e1.trans e2) ⟨hk, rfl⟩))
          have hsz : (sizeOf el).run X.P w = .ok i.size w := by simp [sizeOf, typeInfo, hi]
          unfold Instr.indexAt
          have hnn : (0 : Int) ≤ Int.ofNat n ∧ Int.ofNat n < (len : Int) := ⟨Int.natCast_nonneg n, by simpa using hlt⟩
          have haddr : (⟨ms id, off, none⟩ : Addr).add (n * i.size) = ⟨ms id, off + n * i.size, none⟩ := by
            unfold Addr.add
            by_cases hz : n * i.size = 0
            · simp [hz]
            · rw [if_neg hz]
          simp only [asIntOf, Sem.run_bind, Sem.run_pure, run_underlying hu, Result.andThen_ok, Instr.sureAddr, if_pos hnn, hsz, Int.toNat_natCast, Int.ofNat_eq_natCast, haddr]
          simp [hlt, hsz, Sem.run_bind]
          exact haddr
      · cases h
    · rename_i id off len cap k n el hu
      split at h
      · rename_i i hi
        cases hb : Nat.blt n len <;> rw [hb] at h <;> simp only [cond_true, cond_false] at h
        · cases h
        · cases h
          obtain ⟨hk, hx⟩ := r1
          have hy : a.eval y = .int k (Int.ofNat n) := r2
          have hlt : n < len := by unfold Nat.blt at hb; exact Nat.le_of_ble_eq_true hb
          refine Inv.wp_indexAddr (u := .pointer (some ⟨ms id, off + n * i.size, none⟩)) ho hx hy (fun w => ?_) (hK _ _ (done_same 0 (e1.trans e2) ⟨hk, rfl⟩))
          have hsz : (sizeOf el).run X.P w = .ok i.size w := by simp [sizeOf, typeInfo, hi]
          unfold Instr.indexAt
          have hnn : (0 : Int) ≤ Int.ofNat n ∧ Int.ofNat n < (len : Int) := ⟨Int.natCast_nonneg n, by simpa using hlt⟩
          have haddr : (⟨ms id, off, none⟩ : Addr).add (n * i.size) = ⟨ms id, off + n * i.size, none⟩ := by
            unfold Addr.add
            by_cases hz : n * i.size = 0
            · simp [hz]
            · rw [if_neg hz]
          simp only [asIntOf, Sem.run_bind, Sem.run_pure, run_underlying hu, Result.andThen_ok, Instr.sureAddr, if_pos hnn, hsz, Int.toNat_natCast, Int.ofNat_eq_natCast, haddr]
          simp [hlt, hsz, Sem.run_bind]
          exact haddr
      · cases h
    · cases h
  -- field
  · rename_i ty x k ho
    unfold actField at h
    have q := Res.bind_ok h; clear h; obtain ⟨⟨x1, t1⟩, h1, h⟩ := q
    obtain ⟨e1, r1⟩ := part1_sound (ofOpt_ok h1) hw htm
    simp only at h
    split at h
    · rename_i cs fs hu
      split at h
      · rename_i f hf
        have q := Res.bind_ok h; clear h; obtain ⟨y, h3, h⟩ := q
        cases h
        obtain ⟨vs, hx, hc⟩ := r1
        obtain ⟨v, hv, hr⟩ := part_sound (Pm := X.P) (W := W) hc (ofOpt_ok h3)
        refine Mem.wp_val ?_ (hK v W (done_same 0 e1 hr))
        unfold execOp
        simp only [ho, hx, Instr.field, Sem.run_bind, run_underlying hu, Result.andThen_ok, hf, asAgg, Sem.run_pure, hv]
      · cases h
    · cases h
  -- index
  · rename_i ty x y ho
    unfold actIndex at h
    have q := Res.bind_ok h; clear h; obtain ⟨⟨x1, t1⟩, h1, h⟩ := q
    have q := Res.bind_ok h; clear h; obtain ⟨⟨y1, t2⟩, h2, h⟩ := q
    obtain ⟨e1, r1⟩ := part1_sound (ofOpt_ok h1) hw htm
    obtain ⟨e2, r2⟩ := cell1_sound (ofOpt_ok h2) e1.wf (tm_up e1 htm)
    simp only at h
    split at h
    · rename_i cs k n len el hu
      split at h
      · rename_i i hi
        cases hb : Nat.blt n len <;> rw [hb] at h <;> simp only [cond_true, cond_false] at h
        · cases h
        · have q := Res.bind_ok h; clear h; obtain ⟨z, h3, h⟩ := q
          cases h
          obtain ⟨vs, hx, hc⟩ := r1
          have hy : a.eval y = .int k (Int.ofNat n) := r2
          have hlt : n < len := by unfold Nat.blt at hb; exact Nat.le_of_ble_eq_true hb
          obtain ⟨v, hv, hr⟩ := part_sound (Pm := X.P) (W := W) (hc.mono fun _ _ => Cr.mono (e2.up ms K)) (ofOpt_ok h3)
          refine Mem.wp_val ?_ (hK v W (done_same 0 (e1.trans e2) hr))
          have hsz : (sizeOf el).run X.P W = .ok i.size W := by simp [sizeOf, typeInfo, hi]
          have hnn : (0 : Int) ≤ Int.ofNat n ∧ Int.ofNat n < (len : Int) := ⟨Int.natCast_nonneg n, by simpa using hlt⟩
          unfold execOp
          simp only [ho, hx, hy, Instr.index, asIntOf, Sem.run_bind, Sem.run_pure, run_underlying hu, Result.andThen_ok, if_pos hnn, hsz]
          have : (Int.ofNat n).toNat = n := rfl
          rw [this, hv]; rfl
      · cases h
    · cases h
  -- build
  · rename_i ty ps ho
    unfold actBuild at h
    split at h
    · rename_i z pl hpl
      have q := Res.bind_ok h; clear h; obtain ⟨⟨z1, t1⟩, h1, h⟩ := q
      have q := Res.bind_ok h; clear h; obtain ⟨⟨ps1, t2⟩, h2, h⟩ := q
      have q := Res.bind_ok h; clear h; obtain ⟨cs, h3, h⟩ := q
      cases h
      obtain ⟨e1, r1⟩ := partOf_sound (ms := ms) (K := K) (ofOpt_ok h1) hw
      obtain ⟨e2, r2⟩ := parts_sound (ofOpt_ok h2) e1.wf (tm_up e1 htm)
      obtain ⟨out, g1, g2⟩ := fillC_sound pl r2 ((r1.mono (e2.up ms K)).cells) (ofOpt_ok h3)
      refine Inv.wp_build (u := .agg out) ho rfl (fun w => ?_) (hK _ _ (done_same 0 (e1.trans e2) ⟨out.toList, by simp, g2⟩))
      refine run_build w ty _ out ?_
      rw [placesOf_built hpl]
      simpa using g1
    · cases h
  -- binOp
  · rename_i op ty x y ty' ho
    cases hag : isAggX tm x <;> rw [hag] at h <;> simp only [cond_true, cond_false] at h
    rotate_left
    · unfold actEqAgg at h
      split at h
      · cases h
      · rename_i wt hop
        have q := Res.bind_ok h; clear h; obtain ⟨⟨x1, t1⟩, h1, h⟩ := q
        have q := Res.bind_ok h; clear h; obtain ⟨⟨y1, t2⟩, h2, h⟩ := q
        obtain ⟨e1, r1⟩ := part1_sound (ofOpt_ok h1) hw htm
        obtain ⟨e2, r2⟩ := part1_sound (ofOpt_ok h2) e1.wf (tm_up e1 htm)
        simp only at h
        split at h
        · rename_i cs ds n el hu
          split at h
          · rename_i kd inf hel hinf
            generalize hb : (Nat.beq _ 1 && _) = bb at h
            cases bb <;> simp only [cond_true, cond_false] at h
            · cases h
            · simp only [Bool.and_eq_true, Bool.not_eq_true'] at hb
              have hc1 := beq_eq hb.1
              have q := Res.bind_ok h; clear h; obtain ⟨⟨u, t3⟩, h3, h⟩ := q
              cases h
              obtain ⟨vs, hv, hvs⟩ := r1
              obtain ⟨us, hu2, hus⟩ := r2
              have e12 := e1.trans e2
              have hrun := eqNums_sound (ms := ms) (K := K) hel 9998 (W := W) h3 e2.wf (e12.fk hfs) (hvs.mono fun _ _ => Cr.mono (e2.up ms K)) hus
              have heq : (Op.equal ty (.agg vs.toArray) (.agg us.toArray)).run X.P W = .ok u W := by
                show (Op.equalIn (9999 + 1) ty _ _).run X.P W = _
                rw [run_equalIn_array W 9999 _ _ hu hinf, hc1]
                exact hrun
              refine upto (n := 0) (v := .bool (u == wt)) ?_ (hK _ _ (done_same 0 (e12.trans (eqNums_ext h3 e2.wf)) rfl))
              unfold execOp
              cases op <;> simp only [reduceCtorEq] at hop <;> cases hop
              · simp only [ho, Sem.run_bind, hv, hu2, guard_agg x y _ _ hb.2 W, Result.andThen_ok]
                unfold binOp
                simp only [Sem.run_bind, heq, Result.andThen_ok, Sem.run_pure]
                cases u <;> rfl
              · simp only [ho, Sem.run_bind, hv, hu2, guard_agg x y _ _ hb.2 W, Result.andThen_ok]
                unfold binOp
                simp only [Sem.run_bind, heq, Result.andThen_ok, Sem.run_pure]
                cases u <;> rfl
          · cases h
        · cases h
    unfold actBinOp at h
    have q := Res.bind_ok h; clear h; obtain ⟨⟨x1, t1⟩, h1, h⟩ := q
    have q := Res.bind_ok h; clear h; obtain ⟨⟨y1, t2⟩, h2, h⟩ := q
    obtain ⟨e1, r1⟩ := cell1_sound (ofOpt_ok h1) hw htm
    obtain ⟨e2, r2⟩ := cell1_sound (ofOpt_ok h2) e1.wf (tm_up e1 htm)
    have q := Res.bind_ok h; clear h; obtain ⟨⟨y2, t2'⟩, hs, h⟩ := q
    have es := settled_ext hs e2.wf
    have r2 := settled_sound hs e2.wf ((e1.trans e2).fk hfs) r2
    have e2 := e2.trans es
    simp only at h r2 e2
    split at h
    · rename_i c h3
      obtain ⟨c, t3⟩ := c
      cases h
      obtain ⟨e3, u, n, hrun, r3⟩ := binC_sound h3 e2.wf (r1.mono (e2.up ms K)) r2 X.P ty x y W
      refine upto ?_ (hK u _ (done_same n ((e1.trans e2).trans e3) r3))
      unfold execOp
      simp only [Sem.run_bind] at hrun
      simp only [ho, Sem.run_bind, hrun, Result.andThen_ok, Sem.run_pure]
    · split at h
      · rename_i c h4 hu
        cases h
        obtain ⟨u, hrun, r3⟩ := binB_sound h4 (r1.mono (e2.up ms K)) r2 X.P hu x y W
        refine upto (n := 0) ?_ (hK u _ (done_same 0 (e1.trans e2) r3))
        unfold execOp
        simp only [Sem.run_bind] at hrun
        simp only [ho, Sem.run_bind, hrun, Result.andThen_ok, Sem.run_pure]
        rfl
      · rename_i l h4 hu
        have q := Res.bind_ok h; clear h; obtain ⟨c, h5, h⟩ := q
        cases h
        obtain ⟨u, hrun, r3⟩ := binN_sound (ofOpt_ok h5) (r1.mono (e2.up ms K)) r2 X.P hu x y W
        refine upto (n := 0) ?_ (hK u _ (done_same 0 (e1.trans e2) r3))
        unfold execOp
        simp only [Sem.run_bind] at hrun
        simp only [ho, Sem.run_bind, hrun, Result.andThen_ok, Sem.run_pure]
        rfl
      · cases h
  -- not
  · rename_i ty x ho
    unfold actUnOp at h
    have q := Res.bind_ok h; clear h; obtain ⟨⟨x1, t1⟩, h1, h⟩ := q
    obtain ⟨e1, r1⟩ := cell1_sound (ofOpt_ok h1) hw htm
    simp only at h
    split at h
    · rename_i b
      cases h
      have hx : a.eval x = .bool b := r1
      exact Inv.wp_unop (u := .bool !b) ho hx (fun _ => rfl) (hK _ _ (done_same 0 e1 rfl))
    · rename_i i p
      cases h
      obtain ⟨hi, hx⟩ := r1
      refine Inv.wp_unop (u := .bool !((den env t1.l i).bv == p)) ho hx (fun _ => rfl) (hK _ _ (done_same 0 e1 ⟨hi, ?_⟩))
      show Value.bool _ = Value.bool ((den env t1.l i).bv == !p)
      cases (den env t1.l i).bv <;> cases p <;> rfl
    · cases h
  -- neg
  · rename_i ty x ho
    unfold actNeg at h
    have q := Res.bind_ok h; clear h; obtain ⟨⟨x1, t1⟩, h1, h⟩ := q
    obtain ⟨e1, r1⟩ := cell1_sound (ofOpt_ok h1) hw htm
    simp only at h
    split at h
    · rename_i i
      cases h
      obtain ⟨hi, q, hx, hq⟩ := r1
      obtain ⟨g1, g2, g3⟩ := intern_spec (env := env) (x := ⟨18, i, i⟩) e1.wf (.inr ⟨hi, hi⟩)
      refine Inv.wp_unop (u := .float .f32 (Op.negFloat .f32 q)) ho hx (fun _ => rfl) (hK _ _ (done_same 0 (e1.trans g1) ⟨g2, _, rfl, ?_⟩))
      show _ = (den env _ _).fv
      rw [g3, neg_cv, hq]
      show Option.map _ (den env _ i).fv = Option.map _ (den env _ i).fv
      rw [g1.den i hi]
    · cases h
  -- buildSlice
  · rename_i ty len ps ho
    unfold actBuildSlice at h
    split at h
    · rename_i el hu
      split at h
      · rename_i inf hinf
        split at h
        · rename_i z hz
          have q := Res.bind_ok h; clear h; obtain ⟨⟨z1, t1⟩, h1, h⟩ := q
          have q := Res.bind_ok h; clear h; obtain ⟨⟨ps1, t2⟩, h2, h⟩ := q
          generalize hc : (Nat.blt 0 _ && _) = bb at h
          cases bb <;> simp only [cond_true, cond_false] at h
          · cases h
          · have q := Res.bind_ok h; clear h; obtain ⟨cs, h3, h⟩ := q
            generalize hnt : Nat.blt nid top = cc at h
            cases cc <;> simp only [cond_true, cond_false] at h <;> cases h
            simp only [Bool.and_eq_true] at hc
            have hpos : 0 < len * inf.size := Nat.le_of_ble_eq_true hc.1
            have hmax := Nat.le_of_ble_eq_true hc.2.1
            have hzl : z1.cells.length = inf.size := beq_eq hc.2.2
            have hlt : nid < top := Nat.le_of_ble_eq_true hnt
            obtain ⟨e1, r1⟩ := partOf_sound (ms := ms) (K := K) (ofOpt_ok h1) hw
            obtain ⟨e2, r2⟩ := parts_sound (ofOpt_ok h2) e1.wf (tm_up e1 htm)
            have hz2 := (r1.mono (e2.up ms K)).cells
            have hrep := rep_cells hz2 len
            obtain ⟨out, g1, g2⟩ := fillC_sound _ (vs := ((List.replicate len z.cells.toList).flatten).toArray) r2 (by simpa using hrep) (ofOpt_ok h3)
            have hsz : z.cells.size = inf.size := by rw [← hzl, F2.length hz2]; simp
            have hcells : (Array.range (len * inf.size)).map (fun x => z.cells[x % z.cells.size]!) = ((List.replicate len z.cells.toList).flatten).toArray := range_cells z.cells len inf.size hsz (by
              rcases Nat.eq_zero_or_pos inf.size with h | h
              · rw [h] at hpos; simp at hpos
              · exact h)
            have hrun : (execOp a.eval o).run X.P W = .ok (.value (.slice (some ⟨W.heap.size, 0, none⟩) len len)) (W.alloc (.cells out el)) := by
              unfold execOp
              have hzv : (zeroValue el).run X.P W = .ok z W := by simp [zeroValue, typeInfo, hinf, hz, Sem.run_bind]
              have hsv : (sizeOf el).run X.P W = .ok inf.size W := by simp [sizeOf, typeInfo, hinf]
              have hne : ¬ (len * inf.size = 0) := by omega
              have hnm : ¬ (len * inf.size > 2 ^ 24) := by omega
              have g1' : Instr.fill (fun i => some (i * inf.size, inf.size)) ((Array.range (len * inf.size)).map (fun x => z.cells[x % z.cells.size]!)) ((ps.map fun (i, x) => (i, a.eval x)).toList) = some out := by
                rw [hcells]; simpa using g1
              simp only [ho, Instr.buildSlice, Sem.run_bind, run_underlying hu, Result.andThen_ok, hsv, if_neg hnm, if_neg hne, hzv, Sem.run_pure, g1', newRow, run_newObj_alloc]
            unfold Oper.wp; rw [hrun]
            have hd := done_new (ty := el) (v := .agg out) (nid := nid) (top := top) (W := W) (e1.trans e2) hfr hlt g2
            obtain ⟨ms', K', nl, q1, q2, q3, q4, q5, q6, q7⟩ := hd
            refine hK _ _ ⟨ms', K', nl, q1, q2, q3, q4, ?_, q6, q7⟩
            obtain ⟨k1, k2⟩ := q5
            refine ⟨k1, ?_⟩
            have k3 : W.heap.size = ms' nid := by simpa [mkE] using k2
            show _ = Value.slice (some ⟨ms' nid, 0, none⟩) len len
            rw [← k3]
        · cases h
      · cases h
    · cases h
  -- convert
  · rename_i ty ty' x ho
    unfold actConvert at h
    have q := Res.bind_ok h; clear h; obtain ⟨⟨x1, t1⟩, h1, h⟩ := q
    obtain ⟨e1, r1⟩ := cell1_sound (ofOpt_ok h1) hw htm
    simp only at h
    split at h
    · rename_i i d hd hu
      cases h
      obtain ⟨hi, q, hx, hq⟩ := r1
      obtain ⟨g1, g2, g3⟩ := intern_spec (env := env) (x := ⟨11, i, i⟩) e1.wf (.inr ⟨hi, hi⟩)
      obtain ⟨r, n, hrun, hcv, hlt⟩ := run_widen (P := X.P) ty ty' q W (by rw [hd]; rfl) hu
      refine upto ?_ (hK _ _ (done_same n (e1.trans g1) ⟨g2, r, rfl, ?_, hlt⟩))
      · unfold execOp
        simp only [ho, hx, Sem.run_bind, hrun, Result.andThen_ok, Sem.run_pure]
      · show _ = (den env _ _).fv
        rw [g3, hcv, hq]
        show _ = wide (den env _ i).fv
        rw [g1.den i hi]; rfl
    · rename_i i d hd hu
      cases h
      have r0 := r1
      obtain ⟨hi, q, hx, hq⟩ := r1
      refine upto (n := 0) ?_ (hK _ _ (done_same 0 e1 r0))
      unfold execOp
      simp [ho, hx, Sem.run_bind, convert, run_underlying hd, run_underlying hu, Conv.floatToFloat]
      cases d <;> rfl
    · rename_i i d hd hu
      cases h
      have r0 := r1
      obtain ⟨hi, q, hx, hq⟩ := r1
      refine upto (n := 0) ?_ (hK _ _ (done_same 0 e1 r0))
      unfold execOp
      simp [ho, hx, Sem.run_bind, convert, run_underlying hd, run_underlying hu, Conv.floatToFloat]
      cases d <;> rfl
    · rename_i i d hd hu
      split at h
      · rename_i y hy
        cases hc : (Nat.beq y.k 2 && (kcv .f64 y.a).isNone) <;> rw [hc] at h <;> simp only [cond_true, cond_false] at h <;> cases h
        simp only [Bool.and_eq_true] at hc
        obtain ⟨hi, q, hx, hq, _⟩ := r1
        obtain ⟨_, _, hdn⟩ := nodeAt_spec (env := env) e1.wf hy
        obtain ⟨k, a0, b0⟩ := y
        simp only at hc hdn
        rw [Nat.eq_of_beq_eq_true hc.1] at hdn
        have hnone : kcv .f64 a0 = none := by
          cases hz : kcv .f64 a0 with
          | none => rfl
          | some z => rw [hz] at hc; cases hc.2
        have hqn : kcv .f64 q = none := by
          rw [hq]
          show (den env _ i).fv = none
          rw [hdn]; exact hnone
        obtain ⟨r, n, hrun, hcv⟩ := run_narrow (P := X.P) ty ty' q W (by rw [hd]; rfl) hu (by rw [hqn]; exact fun b h => by cases h)
        obtain ⟨g1, g2, g3⟩ := intern_spec (env := env) (x := ⟨1, 2143289344, 0⟩) e1.wf (const_ok (by omega) _ _)
        refine upto ?_ (hK _ _ (done_same n (e1.trans g1) ⟨g2, r, rfl, ?_⟩))
        · unfold execOp
          simp only [ho, hx, Sem.run_bind, hrun, Result.andThen_ok, Sem.run_pure]
        · show _ = (den env _ _).fv
          rw [g3, hcv, hqn]
          show narrow none = kcv .f32 2143289344
          exact (cv_none (f := Ieee.single) (by decide)).symm
      · cases h
    · cases h
  -- extract
  · rename_i x k ho
    unfold actExtract at h
    have q := Res.bind_ok h; clear h; obtain ⟨⟨x1, t1⟩, h1, h⟩ := q
    obtain ⟨e1, r1⟩ := opnd_sound (ofOpt_ok h1) hw htm
    simp only at h
    split at h
    · rename_i l
      split at h
      · rename_i y hy
        cases h
        obtain ⟨vs, hx, hr⟩ := r1
        obtain ⟨v, hv, hr2⟩ := hr.get hy
        exact Inv.wp_extract ho hx (by simpa using hv) (hK _ _ (done_same 0 e1 hr2))
      · cases h
    · cases h
  -- makeFunc
  · rename_i f fst cs ho
    unfold actMakeFunc at h
    cases hb : fst.isEmpty <;> rw [hb] at h <;> simp only [cond_true, cond_false] at h
    · cases h
    · have q := Res.bind_ok h; clear h; obtain ⟨⟨l, t1⟩, h1, h⟩ := q
      have q := Res.bind_ok h; clear h; obtain ⟨ids, h2, h⟩ := q
      cases h
      obtain ⟨e1, r1⟩ := opnds_sound (ofOpt_ok h1) hw htm
      obtain ⟨g1, g2⟩ := capsOf_sound (ofOpt_ok h2) r1
      have hf : fst = #[] := by simpa using hb
      refine Mem.wp_val ?_ (hK (.func (.func f) #[] (cs.map a.eval)) W (done_same 0 e1 ⟨g1, ?_⟩))
      · unfold execOp
        simp [ho, Instr.makeFunc, hf, Sem.run_bind]
      · congr 1
        apply Array.ext'
        simpa using g2
  -- makeInterface
  · rename_i ty x ho
    unfold actIface at h
    split at h
    · cases h
    · rename_i d hd hu
      have q := Res.bind_ok h; clear h; obtain ⟨⟨x1, t1⟩, h1, h⟩ := q
      obtain ⟨e1, r1⟩ := part1_sound (ofOpt_ok h1) hw htm
      have hrun : (execOp a.eval o).run X.P W = .ok (.value (.iface ty (a.eval x))) W := by
        unfold execOp
        simp only [ho, Instr.makeInterface, Sem.run_bind, run_underlying hu, Result.andThen_ok]
        cases d <;> first | rfl | exact absurd rfl (hd _)
      simp only at h
      split at h
      · rename_i c
        split at h
        · rename_i b hb
          cases h
          refine Mem.wp_val hrun (hK _ W (done_same 0 e1 ⟨[a.eval x], rfl, .cons (down_ok hb r1) .nil⟩))
        · cases h
      · rename_i cs
        split at h
        · rename_i bs hb
          cases h
          obtain ⟨vs, hv, hc⟩ := r1
          refine Mem.wp_val hrun (hK _ W (done_same 0 e1 ⟨vs, ?_, downs_ok hb hc⟩))
          rw [hv]; rfl
        · cases h
    · cases h
  -- typeAssert
  · rename_i x xt asserted ok ho
    unfold actAssert at h
    have q := Res.bind_ok h; clear h; obtain ⟨⟨x1, t1⟩, h1, h⟩ := q
    obtain ⟨e1, r1⟩ := cell1_sound (ofOpt_ok h1) hw htm
    simp only at h
    split at h
    · cases h
    · rename_i d hd hu
      have no : (∀ W', (execOp a.eval o).run X.P W' = (do let z ← zeroValue asserted; pure (.value (.tuple #[z, .bool false])) : Sem Next).run X.P W' ∨ ok = false) → (assertNo X t1 nid asserted ok).sel env = some r → Oper.wp X.P o a W Kont Q := fun hrun h => by
        unfold assertNo at h
        cases ok <;> simp only [cond_true, cond_false] at h
        · cases h
        · split at h
          · rename_i z hz
            have q := Res.bind_ok h; clear h; obtain ⟨⟨z1, t2⟩, h2, h⟩ := q
            cases h
            obtain ⟨e2, r2⟩ := partOf_sound (ms := ms) (K := K) (ofOpt_ok h2) e1.wf
            have hzr : (zeroValue asserted).run X.P W = .ok z W := by
              cases hi : X.P.info? asserted with
              | none => simp [hi] at hz
              | some i =>
                simp [hi] at hz
                simp [zeroValue, typeInfo, hi, hz, Sem.run_bind]
            rcases hrun W with hrun | hrun
            · refine Mem.wp_val (v := .tuple #[z, .bool false]) ?_ (hK _ W (done_same 0 (e1.trans e2) ⟨[z, .bool false], rfl, .cons r2 (.cons rfl .nil)⟩))
              rw [hrun]
              simp only [Sem.run_bind, hzr, Result.andThen_ok, Sem.run_pure]
            · cases hrun
          · cases h
      split at h
      · rename_i ty ag bs
        obtain ⟨vs, hv, hb⟩ := r1
        generalize hq : Nat.beq ty asserted = bb at h
        cases bb <;> simp only [cond_true, cond_false] at h
        · have hne : ¬ ty = asserted := fun e => by subst e; simp at hq
          refine no (fun W' => ?_) h
          cases ok
          · exact .inr rfl
          · refine .inl ?_
            unfold execOp
            simp only [ho, Instr.typeAssert, hv, Sem.run_bind, run_underlying hu, Result.andThen_ok]
            cases d <;> first | exact absurd rfl (hd _) | (simp [hne, Sem.run_bind]; cases Sem.run X.P (zeroValue asserted) W' <;> rfl)
        · have he := beq_eq hq
          subst he
          split at h
          · rename_i p hp
            have hpr := upP_ok hp hb
            cases ok <;> simp only [cond_true, cond_false] at h <;> cases h
            · refine Mem.wp_val (v := inner ag vs) ?_ (hK _ W (done_same 0 e1 hpr))
              unfold execOp
              simp only [ho, Instr.typeAssert, hv, Sem.run_bind, run_underlying hu, Result.andThen_ok]
              cases d <;> first | exact absurd rfl (hd _) | (simp [Sem.run_bind]; done)
            · refine Mem.wp_val (v := .tuple #[inner ag vs, .bool true]) ?_ (hK _ W (done_same 0 e1 ⟨[inner ag vs, .bool true], rfl, .cons hpr (.cons rfl .nil)⟩))
              unfold execOp
              simp only [ho, Instr.typeAssert, hv, Sem.run_bind, run_underlying hu, Result.andThen_ok]
              cases d <;> first | exact absurd rfl (hd _) | (simp [Sem.run_bind]; done)
          · cases h
      · have hv : a.eval x = .nilIface := r1
        refine no (fun W' => ?_) h
        cases ok
        · exact .inr rfl
        · refine .inl ?_
          unfold execOp
          simp only [ho, Instr.typeAssert, hv, Sem.run_bind, run_underlying hu, Result.andThen_ok]
          cases d <;> first | exact absurd rfl (hd _) | (simp [Sem.run_bind]; cases Sem.run X.P (zeroValue asserted) W' <;> rfl)
      · cases h
    · cases h
  -- call
  · rename_i c ho
    unfold actCall at h
    split at h
    · rename_i x hc
      have q := Res.bind_ok h; clear h; obtain ⟨⟨x1, t1⟩, h1, h⟩ := q
      obtain ⟨e1, r1⟩ := cell1_sound (ofOpt_ok h1) hw htm
      simp only at h
      split at h
      · rename_i f caps
        cases hb : Inv.bodied X.P f <;> rw [hb] at h <;> simp only [cond_true, cond_false] at h
        · cases h
        · have q := Res.bind_ok h; clear h; obtain ⟨⟨l, t2⟩, h2, h⟩ := q
          simp only at h
          obtain ⟨e2, r2⟩ := opnds_sound (ofOpt_ok h2) e1.wf (tm_up e1 htm)
          obtain ⟨hcap, hx⟩ := r1
          have e12 := e1.trans e2
          have hargs : F2 (Ar (mkE env t2 ms K)) (l ++ caps.map fun id => A.p (.one (.ptr id 0))) (c.args.toList.map a.eval ++ caps.map fun id => Value.pointer (some ⟨ms id, 0, none⟩)) := r2.append (caps_args (e := mkE env t2 ms K) hcap)
          have hcall := hX f _ M t2 nid top r h ms K _ W e2.wf (hrd.mono (e12.up ms K)) hargs hfr (e12.fk hfs)
          have hrun : (execOp a.eval o).run X.P W = .ok (.enter f (c.args.toList.map a.eval ++ caps.map fun id => Value.pointer (some ⟨ms id, 0, none⟩)).toArray) W := by
            unfold execOp
            simp only [ho, resolve, hc, hx, Deferred.ofValue, Sem.run_bind, Sem.run_pure, Result.andThen_ok, invoke]
            rw [Inv.run_callFunc_body hb]
            congr 2
            apply Array.ext'
            simp [mkE]
          unfold Oper.wp; rw [hrun, Oper.upon_enter]
          refine Calls.mono hcall fun e W' ⟨v', he, hd⟩ => ?_
          subst he
          obtain ⟨ms', K', nl, q1, q2, q3, q4, q5, q6, q7⟩ := hd
          exact hK _ _ ⟨ms', K', nl, e12.trans q1, q2, q3, q4, q5, q6, q7⟩
      · cases h
    · rename_i x name hc
      unfold actInvoke at h
      have q := Res.bind_ok h; clear h; obtain ⟨⟨x1, t1⟩, h1, h⟩ := q
      obtain ⟨e1, r1⟩ := cell1_sound (ofOpt_ok h1) hw htm
      simp only at h
      split at h
      · rename_i ty ag bs
        split at h
        · rename_i f p hf hp
          cases hb : Inv.bodied X.P f <;> rw [hb] at h <;> simp only [cond_true, cond_false] at h
          · cases h
          · have q := Res.bind_ok h; clear h; obtain ⟨⟨l, t2⟩, h2, h⟩ := q
            simp only at h
            obtain ⟨e2, r2⟩ := opnds_sound (ofOpt_ok h2) e1.wf (tm_up e1 htm)
            obtain ⟨vs, hx, hbs⟩ := r1
            have e12 := e1.trans e2
            have hrecv : Ar (mkE env t2 ms K) (.p p) (inner ag vs) := (upP_ok hp hbs).mono (e2.up ms K)
            have hargs : F2 (Ar (mkE env t2 ms K)) (.p p :: l) (inner ag vs :: c.args.toList.map a.eval) := .cons hrecv r2
            have hcall := hX f _ M t2 nid top r h ms K _ W e2.wf (hrd.mono (e12.up ms K)) hargs hfr (e12.fk hfs)
            have hrun : (execOp a.eval o).run X.P W = .ok (.enter f (inner ag vs :: c.args.toList.map a.eval).toArray) W := by
              unfold execOp
              simp only [ho, resolve, hc, hx, Sem.run_bind, Sem.run_pure, Result.andThen_ok]
              rw [invoke_method, callMethod_run hf]
              rw [Inv.run_callFunc_body hb]
              congr 2
              apply Array.ext'
              simp
            unfold Oper.wp; rw [hrun, Oper.upon_enter]
            refine Calls.mono hcall fun e W' ⟨v', he, hd⟩ => ?_
            subst he
            obtain ⟨ms', K', nl, q1, q2, q3, q4, q5, q6, q7⟩ := hd
            exact hK _ _ ⟨ms', K', nl, e12.trans q1, q2, q3, q4, q5, q6, q7⟩
        · cases h
      · cases h
    · rename_i hc
      unfold actLen at h
      split at h
      · rename_i x ty hargs hty
        split at h
        · rename_i el hu
          have q := Res.bind_ok h; clear h; obtain ⟨⟨x1, t1⟩, h1, h⟩ := q
          obtain ⟨e1, r1⟩ := cell1_sound (ofOpt_ok h1) hw htm
          have harr : c.args.map a.eval = #[a.eval x] := by
            apply Array.ext'; rw [Array.toList_map, hargs]; rfl
          have hlen : ∀ (base : Option Addr) (n cp : Nat), a.eval x = .slice base n cp → (execOp a.eval o).run X.P W = .ok (.value (.int .i64 n)) W := fun base n cp hx => by
            unfold execOp
            simp [ho, resolve, hc, harr, hx, Sem.run_bind, invoke, builtin, Builtin.len_, hty, run_underlying hu, goInt]
          simp only at h
          split at h
          · cases h
            have hx : a.eval x = .slice none 0 0 := r1
            exact Mem.wp_val (hlen _ _ _ hx) (hK _ W (done_same 0 e1 rfl))
          · cases h
            obtain ⟨_, hx⟩ := r1
            exact Mem.wp_val (hlen _ _ _ hx) (hK _ W (done_same 0 e1 rfl))
          · cases h
        · cases h
      · cases h
    · cases h
  -- slice
  · rename_i ty x lo hi mx ho
    unfold actSlice at h
    split at h
    · cases h
    · have q := Res.bind_ok h; clear h; obtain ⟨⟨x1, t1⟩, h1, h⟩ := q
      have q := Res.bind_ok h; clear h; obtain ⟨⟨l1, t2⟩, h2, h⟩ := q
      have q := Res.bind_ok h; clear h; obtain ⟨⟨r1, t3⟩, h3, h⟩ := q
      obtain ⟨e1, k1⟩ := cell1_sound (ofOpt_ok h1) hw htm
      obtain ⟨e2, k2⟩ := optInt_sound (ofOpt_ok h2) e1.wf (tm_up e1 htm)
      have e12 := e1.trans e2
      obtain ⟨e3, k3⟩ := optInt_sound (ofOpt_ok h3) e12.wf (tm_up e12 htm)
      simp only at h
      split at h
      · rename_i id off n el hu
        split at h
        · rename_i i a' b' hi' hcut
          cases h
          obtain ⟨hk, hx⟩ := k1
          have hx' : a.eval x = .pointer (some ⟨ms id, off, none⟩) := hx
          refine Mem.wp_val (v := .slice (some ⟨ms id, bif Nat.beq n a' then off else off + a' * i.size, none⟩) (b' - a') (n - a')) ?_ (hK _ W (done_same 0 (e12.trans e3) ⟨hk, rfl⟩))
          unfold execOp
          simp only [ho, hx', k2, k3, Option.map_none, Sem.run_bind, cut_sound hu hi' hcut ⟨ms id, off, none⟩ W, Result.andThen_ok, Sem.run_pure]
          congr 3
          cases hb : Nat.beq n a' <;> simp only [cond_true, cond_false]
          · rw [if_neg (fun e => by subst e; simp at hb)]
            unfold Addr.add
            split
            · rename_i h0; rw [h0]; rfl
            · rfl
          · rw [if_pos (beq_eq hb)]
        · cases h
      · cases h
  -- slice to array
  · rename_i ty x ho
    unfold actToArr at h
    have q := Res.bind_ok h; clear h; obtain ⟨⟨x1, t1⟩, h1, h⟩ := q
    obtain ⟨e1, k1⟩ := cell1_sound (ofOpt_ok h1) hw htm
    simp only at h
    split at h
    · rename_i id off len cap n el hu
      cases hb : Nat.ble n len <;> rw [hb] at h <;> simp only [cond_true, cond_false] at h
      · cases h
      · cases h
        obtain ⟨hk, hx⟩ := k1
        have hx' : a.eval x = .slice (some ⟨ms id, off, none⟩) len cap := hx
        refine Mem.wp_val (v := .pointer (some ⟨ms id, off, none⟩)) ?_ (hK _ W (done_same 0 e1 ⟨hk, rfl⟩))
        unfold execOp
        simp only [ho, hx', Sem.run_bind, run_arrayAt W ty el n (some ⟨ms id, off, none⟩) len cap hu (Nat.le_of_ble_eq_true hb), Result.andThen_ok, Sem.run_pure]
    · cases h
  -- panic
  · unfold actPanic at h
    have q := Res.bind_ok h; clear h; obtain ⟨⟨x1, t1⟩, h1, h⟩ := q
    simp only at h
    split at h
    · generalize C.bare _ = bb at h
      cases bb <;> cases h
    · cases h
  · cases h
end
end Go.Sx
