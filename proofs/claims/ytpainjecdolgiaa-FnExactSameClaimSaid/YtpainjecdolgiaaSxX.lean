/- A symbolic evaluator of closed terms: the table only goes on. -/
import Derived.Test.YtpainjecdolgiaaSxB
namespace Go.Sx
open Go Go.RowKit Go.Flo Go.Mem Go.Proofs.Ytpainjecdolgiaa
set_option linter.unusedVariables false
set_option linter.unusedSimpArgs false
section
variable {env : Nat → Sc}
theorem cellOf_ext {t t' : Tb} {v : Value} {c : C} (h : cellOf t v = some (c, t')) (hw : WF t) : Ext env t t' := by
  unfold cellOf at h
  split at h
  rotate_left
  · generalize Nat.blt _ 18446744073709551616 = bb at h
    cases bb <;> simp only [cond_true, cond_false] at h <;> cases h
    exact intern_ext hw
  all_goals cases h <;> first | exact intern_ext hw | exact Ext.refl hw
theorem cellsOf_ext : ∀ {vs : List Value} {t t' : Tb} {cs : List C}, cellsOf t vs = some (cs, t') → WF t → Ext env t t'
  | [], t, t', cs, h, hw => by cases h; exact Ext.refl hw
  | v :: vs, t, t', cs, h, hw => by
    unfold cellsOf at h
    split at h
    · cases h
    · rename_i c t1 h1
      split at h
      · cases h
      · rename_i cs2 t2 h2
        cases h
        have e1 := cellOf_ext (env := env) h1 hw
        exact e1.trans (cellsOf_ext h2 e1.wf)
theorem partOf_ext {t t' : Tb} {v : Value} {c : P} (h : partOf t v = some (c, t')) (hw : WF t) : Ext env t t' := by
  unfold partOf at h
  split at h
  · split at h
    · rename_i cs t1 h1; cases h; exact cellsOf_ext h1 hw
    · cases h
  · split at h
    · rename_i c1 t1 h1; cases h; exact cellOf_ext h1 hw
    · cases h
theorem opnd_ext {t t' : Tb} {tm : List A} {x : Operand} {y : A} (h : opnd tm t x = some (y, t')) (hw : WF t) : Ext env t t' := by
  unfold opnd at h
  split at h
  · split at h
    · cases h; exact Ext.refl hw
    · cases h
  · split at h
    · rename_i z t1 h1; cases h; exact partOf_ext h1 hw
    · cases h
  · cases h; exact Ext.refl hw
  · cases h
theorem part1_ext {t t' : Tb} {tm : List A} {x : Operand} {y : P} (h : part1 tm t x = some (y, t')) (hw : WF t) : Ext env t t' := by
  unfold part1 at h
  split at h
  · rename_i z t1 h1; cases h; exact opnd_ext h1 hw
  · cases h
theorem cell1_ext {t t' : Tb} {tm : List A} {x : Operand} {y : C} (h : cell1 tm t x = some (y, t')) (hw : WF t) : Ext env t t' := by
  unfold cell1 at h
  split at h
  · rename_i z t1 h1; cases h; exact opnd_ext h1 hw
  · cases h
theorem opnds_ext {tm : List A} : ∀ {xs : List Operand} {t t' : Tb} {ys : List A}, opnds tm t xs = some (ys, t') → WF t → Ext env t t'
  | [], t, t', ys, h, hw => by cases h; exact Ext.refl hw
  | x :: xs, t, t', ys, h, hw => by
    unfold opnds at h
    split at h
    · cases h
    · rename_i y t1 h1
      split at h
      · cases h
      · rename_i ys2 t2 h2
        cases h
        have e1 := opnd_ext (env := env) h1 hw
        exact e1.trans (opnds_ext h2 e1.wf)
theorem parts_ext {tm : List A} : ∀ {xs : List (Nat × Operand)} {t t' : Tb} {ys : List (Nat × P)}, parts tm t xs = some (ys, t') → WF t → Ext env t t'
  | [], t, t', ys, h, hw => by cases h; exact Ext.refl hw
  | (k, x) :: xs, t, t', ys, h, hw => by
    unfold parts at h
    split at h
    · cases h
    · rename_i y t1 h1
      split at h
      · cases h
      · rename_i ys2 t2 h2
        cases h
        have e1 := part1_ext (env := env) h1 hw
        exact e1.trans (parts_ext h2 e1.wf)
theorem halfNd_ext {i : Nat} {t : Tb} (hw : WF t) : Ext env t (halfNd i t).2 := by
  unfold halfNd
  have p := intern_ext (env := env) (x := ⟨1, 1056964608, 0⟩) hw
  exact p.trans (intern_ext p.wf)
theorem sizeNd_ext {k a b : Nat} {t : Tb} (hw : WF t) : Ext env t (sizeNd k a b t).2 := by
  unfold sizeNd
  have p := intern_ext (env := env) (x := ⟨37, a, a⟩) hw
  have q := p.trans (intern_ext (env := env) (x := ⟨37, b, b⟩) p.wf)
  exact q.trans (intern_ext q.wf)
theorem binC_ext {op : BinOp} {x y c : C} {t t' : Tb} (h : binC op x y t = some (c, t')) (hw : WF t) : Ext env t t' := by
  unfold binC at h
  repeat' (split at h)
  all_goals first | (cases h; done) | (cases h; first | exact intern_ext hw | exact sizeNd_ext hw | exact Ext.refl hw) | (generalize Nat.ble _ 1000000 = bb at h; cases bb <;> simp only [cond_true, cond_false] at h <;> cases h; exact Ext.refl hw) | (generalize sameSts _ _ = bb at h; cases bb <;> simp only [cond_true, cond_false] at h <;> cases h; exact Ext.refl hw) | (generalize (Nat.beq _ 6 && _) = bb at h; cases bb <;> simp only [cond_true, cond_false] at h <;> cases h <;> first | exact intern_ext hw | exact halfNd_ext hw) | (generalize nzI _ = bb at h; cases bb <;> simp only [cond_true, cond_false] at h <;> cases h; exact Ext.refl hw)
theorem heard_ext {t : Tb} {i : Nat} (hw : WF t) (hi : i < t.n) : Ext env t (heard t i (den env t.l i).bv) :=
  ⟨⟨hw.1, hw.2⟩, Nat.le_refl _, fun _ _ => rfl, fun hf => spread_ok hw 8 hf hi rfl⟩
theorem truth_ext {t : Tb} {c : C} {b : Bool × Tb} (h : (truth t c).sel env = some b) (hw : WF t) : Ext env t b.2 := by
  unfold truth at h
  split at h
  · cases h; exact Ext.refl hw
  · rename_i i p
    split at h
    · cases h; exact Ext.refl hw
    · cases hb : Nat.blt i t.n <;> rw [hb] at h <;> simp only [cond_true, cond_false] at h
      · cases h
      · cases h; exact heard_ext hw (Nat.le_of_ble_eq_true hb)
  · cases h
theorem settled_ext {x y : C} {t : Tb} {r : C × Tb} (h : (settled x y t).sel env = some r) (hw : WF t) : Ext env t r.2 := by
  unfold settled at h
  split at h
  · rename_i i p j q
    cases hb : Nat.beq i j <;> rw [hb] at h <;> simp only [cond_true, cond_false] at h
    · have q := Res.bind_ok h; clear h; obtain ⟨b, h1, h⟩ := q
      cases h
      exact truth_ext h1 hw
    · cases h; exact Ext.refl hw
  · cases h; exact Ext.refl hw
theorem wants_ext {X : Ctx} {ops : Array Oper} {o : Oper} {s : S} {b : Bool × Tb} (h : (wants X ops o s).sel env = some b) (hw : WF s.t) : Ext env s.t b.2 := by
  unfold wants at h
  split at h
  · cases h; exact Ext.refl hw
  · split at h
    · cases h
    · split at h
      · have q := Res.bind_ok h; clear h; obtain ⟨⟨v, t1⟩, h1, h⟩ := q
        cases h
        exact truth_ext (b := (v, t1)) h1 hw
      · cases h; exact Ext.refl hw
      · cases h
theorem eqNums_ext {Pm : Program} {el : TypeId} {cs ds : List C} : ∀ {js : List Nat} {t : Tb} {r : Bool × Tb}, (eqNums Pm el cs ds js t).sel env = some r → WF t → Ext env t r.2
  | [], t, r, h, hw => by cases h; exact Ext.refl hw
  | j :: js, t, r, h, hw => by
    unfold eqNums at h
    split at h
    · rename_i k a k' b _ _
      split at h
      · have q := Res.bind_ok h; clear h; obtain ⟨⟨u, t1⟩, h1, h⟩ := q
        have e1 := (intern_ext (env := env) (x := ⟨34, a, b⟩) hw)
        have e2 := e1.trans (truth_ext h1 e1.wf)
        cases u <;> simp only [cond_true, cond_false] at h
        · cases h; exact e2
        · exact e2.trans (eqNums_ext h e2.wf)
      · cases h
    · cases h
theorem eqAgg_ext {X : Ctx} {M : Mm} {tm : List A} {t : Tb} {nid top : Nat} {op : BinOp} {ty : TypeId} {x y : Operand} {r : A × Mm × Nat × Tb} (h : (actEqAgg X M tm t nid top op ty x y).sel env = some r) (hw : WF t) : Ext env t r.2.2.2 := by
  unfold actEqAgg at h
  split at h
  · cases h
  · have q := Res.bind_ok h; clear h; obtain ⟨⟨x1, t1⟩, h1, h⟩ := q
    have q := Res.bind_ok h; clear h; obtain ⟨⟨y1, t2⟩, h2, h⟩ := q
    have e1 := part1_ext (env := env) (ofOpt_ok h1) hw
    have e2 := e1.trans (part1_ext (env := env) (ofOpt_ok h2) e1.wf)
    simp only at h
    split at h
    · split at h
      · generalize (Nat.beq _ 1 && _) = bb at h
        cases bb <;> simp only [cond_true, cond_false] at h
        · cases h
        · have q := Res.bind_ok h; clear h; obtain ⟨⟨u, t3⟩, h3, h⟩ := q
          cases h
          exact e2.trans (eqNums_ext h3 e2.wf)
      · cases h
    · cases h
theorem optInt_ext {tm : List A} {t t' : Tb} {x : Option Operand} {r : Option (IntKind × Int)} (h : optInt tm t x = some (r, t')) (hw : WF t) : Ext env t t' := by
  unfold optInt at h
  split at h
  · cases h; exact Ext.refl hw
  · split at h
    · rename_i k n t1 h1
      cases h
      exact cell1_ext h1 hw
    · cases h
theorem slice_ext {X : Ctx} {M : Mm} {tm : List A} {t : Tb} {nid top : Nat} {ty : TypeId} {x : Operand} {lo hi mx : Option Operand} {r : A × Mm × Nat × Tb} (h : (actSlice X M tm t nid top ty x lo hi mx).sel env = some r) (hw : WF t) : Ext env t r.2.2.2 := by
  unfold actSlice at h
  split at h
  · cases h
  · have q := Res.bind_ok h; clear h; obtain ⟨⟨x1, t1⟩, h1, h⟩ := q
    have q := Res.bind_ok h; clear h; obtain ⟨⟨l1, t2⟩, h2, h⟩ := q
    have q := Res.bind_ok h; clear h; obtain ⟨⟨r1, t3⟩, h3, h⟩ := q
    have e1 := cell1_ext (env := env) (ofOpt_ok h1) hw
    have e2 := e1.trans (optInt_ext (env := env) (ofOpt_ok h2) e1.wf)
    have e3 := e2.trans (optInt_ext (env := env) (ofOpt_ok h3) e2.wf)
    simp only at h
    split at h
    · split at h
      · cases h; exact e3
      · cases h
    · cases h
theorem toArr_ext {X : Ctx} {M : Mm} {tm : List A} {t : Tb} {nid top : Nat} {ty : TypeId} {x : Operand} {r : A × Mm × Nat × Tb} (h : (actToArr X M tm t nid top ty x).sel env = some r) (hw : WF t) : Ext env t r.2.2.2 := by
  unfold actToArr at h
  have q := Res.bind_ok h; clear h; obtain ⟨⟨x1, t1⟩, h1, h⟩ := q
  have e1 := cell1_ext (env := env) (ofOpt_ok h1) hw
  simp only at h
  split at h
  · generalize Nat.ble _ _ = bb at h
    cases bb <;> simp only [cond_true, cond_false] at h <;> cases h
    exact e1
  · cases h
def CallExt (env : Nat → Sc) (X : Ctx) : Prop := ∀ f args M t nid top r, (X.call f args M t nid top).sel env = some r → WF t → Ext env t r.2.2.2
theorem act_ext {X : Ctx} (hX : CallExt env X) {M : Mm} {tm : List A} {t : Tb} {nid top : Nat} {o : Oper} {r : A × Mm × Nat × Tb} (h : (act X M tm t nid top o).sel env = some r) (hw : WF t) : Ext env t r.2.2.2 := by
  unfold act at h
  split at h
  · unfold actMove at h
    obtain ⟨⟨v, t1⟩, h1, h2⟩ := Res.bind_ok h
    cases h2; exact opnd_ext (ofOpt_ok h1) hw
  · unfold actAssign at h
    obtain ⟨⟨v, t1⟩, h1, h2⟩ := Res.bind_ok h
    cases h2; exact opnd_ext (ofOpt_ok h1) hw
  · unfold actPick at h
    have q := Res.bind_ok h; clear h; obtain ⟨⟨cc, t1⟩, h1, h⟩ := q
    have q := Res.bind_ok h; clear h; obtain ⟨b, h2, h⟩ := q
    have q := Res.bind_ok h; clear h; obtain ⟨⟨v, t2⟩, h3, h⟩ := q
    cases h
    have e0 := cell1_ext (env := env) (ofOpt_ok h1) hw
    have e1 := e0.trans (truth_ext h2 e0.wf)
    exact e1.trans (opnd_ext (ofOpt_ok h3) e1.wf)
  · unfold actAlloc at h
    split at h
    · have q := Res.bind_ok h; clear h; obtain ⟨⟨x, t1⟩, h1, h⟩ := q
      unfold newBlock at h
      have e1 := partOf_ext (env := env) (ofOpt_ok h1) hw
      cases hc : Nat.blt nid top <;> rw [hc] at h <;> simp only [cond_true, cond_false] at h <;> cases h
      exact e1
    · cases h
  · unfold actBox at h
    have q := Res.bind_ok h; clear h; obtain ⟨⟨x, t1⟩, h1, h⟩ := q
    unfold newBlock at h
    have e1 := part1_ext (env := env) (ofOpt_ok h1) hw
    cases hc : Nat.blt nid top <;> rw [hc] at h <;> simp only [cond_true, cond_false] at h <;> cases h
    exact e1
  · unfold actLoad at h
    have q := Res.bind_ok h; clear h; obtain ⟨⟨x1, t1⟩, h1, h⟩ := q
    have e1 := cell1_ext (env := env) (ofOpt_ok h1) hw
    simp only at h
    split at h
    · split at h
      · have q := Res.bind_ok h; clear h; obtain ⟨y, h3, h⟩ := q
        cases h; exact e1
      · cases h
    · cases h
  · unfold actNilCheck at h
    have q := Res.bind_ok h; clear h; obtain ⟨⟨x1, t1⟩, h1, h⟩ := q
    have e1 := cell1_ext (env := env) (ofOpt_ok h1) hw
    simp only at h
    split at h
    · cases h; exact e1
    · cases h
  · unfold actFieldAddr at h
    have q := Res.bind_ok h; clear h; obtain ⟨⟨x1, t1⟩, h1, h⟩ := q
    have e1 := cell1_ext (env := env) (ofOpt_ok h1) hw
    simp only at h
    split at h
    · split at h
      · split at h
        · rename_i i hi
          cases hb : Nat.beq i.size 0 <;> rw [hb] at h <;> simp only [cond_true, cond_false] at h <;> cases h
          exact e1
        · cases h
      · cases h
    · cases h
  · unfold actIndexAddr at h
    have q := Res.bind_ok h; clear h; obtain ⟨⟨x1, t1⟩, h1, h⟩ := q
    have q := Res.bind_ok h; clear h; obtain ⟨⟨y1, t2⟩, h2, h⟩ := q
    have e1 := cell1_ext (env := env) (ofOpt_ok h1) hw
    have e2 := e1.trans (cell1_ext (env := env) (ofOpt_ok h2) e1.wf)
    simp only at h
    split at h
    · split at h
      · generalize hb : Nat.blt _ _ = bb at h
        cases bb <;> simp only [cond_true, cond_false] at h <;> cases h
        exact e2
      · cases h
    · split at h
      · generalize hb : Nat.blt _ _ = bb at h
        cases bb <;> simp only [cond_true, cond_false] at h <;> cases h
        exact e2
      · cases h
    · cases h
  · unfold actField at h
    have q := Res.bind_ok h; clear h; obtain ⟨⟨x1, t1⟩, h1, h⟩ := q
    have e1 := part1_ext (env := env) (ofOpt_ok h1) hw
    simp only at h
    split at h
    · split at h
      · have q := Res.bind_ok h; clear h; obtain ⟨y, h3, h⟩ := q
        cases h; exact e1
      · cases h
    · cases h
  · unfold actIndex at h
    have q := Res.bind_ok h; clear h; obtain ⟨⟨x1, t1⟩, h1, h⟩ := q
    have q := Res.bind_ok h; clear h; obtain ⟨⟨y1, t2⟩, h2, h⟩ := q
    have e1 := part1_ext (env := env) (ofOpt_ok h1) hw
    have e2 := e1.trans (cell1_ext (env := env) (ofOpt_ok h2) e1.wf)
    simp only at h
    split at h
    · split at h
      · generalize hb : Nat.blt _ _ = bb at h
        cases bb <;> simp only [cond_true, cond_false] at h
        · cases h
        · have q := Res.bind_ok h; clear h; obtain ⟨z, h3, h⟩ := q
          cases h; exact e2
      · cases h
    · cases h
  · unfold actBuild at h
    split at h
    · have q := Res.bind_ok h; clear h; obtain ⟨⟨z1, t1⟩, h1, h⟩ := q
      have q := Res.bind_ok h; clear h; obtain ⟨⟨ps1, t2⟩, h2, h⟩ := q
      have q := Res.bind_ok h; clear h; obtain ⟨cs, h3, h⟩ := q
      cases h
      have e1 := partOf_ext (env := env) (ofOpt_ok h1) hw
      exact e1.trans (parts_ext (ofOpt_ok h2) e1.wf)
    · cases h
  · rename_i x y _ _
    cases hag : isAggX tm x <;> rw [hag] at h <;> simp only [cond_true, cond_false] at h
    rotate_left
    · exact eqAgg_ext h hw
    unfold actBinOp at h
    have q := Res.bind_ok h; clear h; obtain ⟨⟨x1, t1⟩, h1, h⟩ := q
    have q := Res.bind_ok h; clear h; obtain ⟨⟨y1, t2⟩, h2, h⟩ := q
    have e1 := cell1_ext (env := env) (ofOpt_ok h1) hw
    have e2 := e1.trans (cell1_ext (env := env) (ofOpt_ok h2) e1.wf)
    have q := Res.bind_ok h; clear h; obtain ⟨⟨y2, t2'⟩, hs, h⟩ := q
    have e2 := e2.trans (settled_ext hs e2.wf)
    simp only at h
    split at h
    · rename_i c h3
      obtain ⟨c, t3⟩ := c
      cases h
      exact e2.trans (binC_ext h3 e2.wf)
    · split at h
      · cases h; exact e2
      · have q := Res.bind_ok h; clear h; obtain ⟨c, h4, h⟩ := q
        cases h; exact e2
      · cases h
  · unfold actUnOp at h
    have q := Res.bind_ok h; clear h; obtain ⟨⟨x1, t1⟩, h1, h⟩ := q
    have e1 := cell1_ext (env := env) (ofOpt_ok h1) hw
    simp only at h
    split at h
    · cases h; exact e1
    · cases h; exact e1
    · cases h
  · unfold actNeg at h
    have q := Res.bind_ok h; clear h; obtain ⟨⟨x1, t1⟩, h1, h⟩ := q
    have e1 := cell1_ext (env := env) (ofOpt_ok h1) hw
    simp only at h
    split at h
    · cases h; exact e1.trans (intern_ext e1.wf)
    · cases h
  · unfold actBuildSlice at h
    split at h
    · split at h
      · split at h
        · have q := Res.bind_ok h; clear h; obtain ⟨⟨z1, t1⟩, h1, h⟩ := q
          have q := Res.bind_ok h; clear h; obtain ⟨⟨ps1, t2⟩, h2, h⟩ := q
          have e1 := partOf_ext (env := env) (ofOpt_ok h1) hw
          have e2 := e1.trans (parts_ext (env := env) (ofOpt_ok h2) e1.wf)
          generalize (Nat.blt 0 _ && _) = bb at h
          cases bb <;> simp only [cond_true, cond_false] at h
          · cases h
          · have q := Res.bind_ok h; clear h; obtain ⟨cs, h3, h⟩ := q
            generalize Nat.blt nid top = cc at h
            cases cc <;> simp only [cond_true, cond_false] at h <;> cases h
            exact e2
        · cases h
      · cases h
    · cases h
  · unfold actConvert at h
    have q := Res.bind_ok h; clear h; obtain ⟨⟨x1, t1⟩, h1, h⟩ := q
    have e1 := cell1_ext (env := env) (ofOpt_ok h1) hw
    simp only at h
    split at h
    · cases h; exact e1.trans (intern_ext e1.wf)
    · cases h; exact e1
    · cases h; exact e1
    · split at h
      · rename_i y hy
        cases hc : (Nat.beq y.k 2 && (kcv .f64 y.a).isNone) <;> rw [hc] at h <;> simp only [cond_true, cond_false] at h <;> cases h
        exact e1.trans (intern_ext e1.wf)
      · cases h
    · cases h
  · unfold actExtract at h
    have q := Res.bind_ok h; clear h; obtain ⟨⟨x1, t1⟩, h1, h⟩ := q
    have e1 := opnd_ext (env := env) (ofOpt_ok h1) hw
    simp only at h
    split at h
    · split at h
      · cases h; exact e1
      · cases h
    · cases h
  · rename_i f fst cs ho
    unfold actMakeFunc at h
    cases hb : fst.isEmpty <;> rw [hb] at h <;> simp only [cond_true, cond_false] at h
    · cases h
    · have q := Res.bind_ok h; clear h; obtain ⟨⟨l, t1⟩, h1, h⟩ := q
      have q := Res.bind_ok h; clear h; obtain ⟨ids, h2, h⟩ := q
      cases h
      exact opnds_ext (ofOpt_ok h1) hw
  · unfold actIface at h
    split at h
    · cases h
    · have q := Res.bind_ok h; clear h; obtain ⟨⟨x1, t1⟩, h1, h⟩ := q
      have e1 := part1_ext (env := env) (ofOpt_ok h1) hw
      simp only at h
      split at h
      · split at h
        · cases h; exact e1
        · cases h
      · split at h
        · cases h; exact e1
        · cases h
    · cases h
  · rename_i x xt asserted ok ho
    have no : ∀ {t1 : Tb} {r : A × Mm × Nat × Tb}, (assertNo X t1 nid asserted ok).sel env = some r → WF t1 → Ext env t1 r.2.2.2 := fun {t1 r} h hw => by
      unfold assertNo at h
      cases ok <;> simp only [cond_true, cond_false] at h
      · cases h
      · split at h
        · have q := Res.bind_ok h; clear h; obtain ⟨⟨z, t2⟩, h1, h⟩ := q
          cases h
          exact partOf_ext (ofOpt_ok h1) hw
        · cases h
    unfold actAssert at h
    have q := Res.bind_ok h; clear h; obtain ⟨⟨x1, t1⟩, h1, h⟩ := q
    have e1 := cell1_ext (env := env) (ofOpt_ok h1) hw
    simp only at h
    split at h
    · cases h
    · split at h
      · rename_i ty ag bs
        generalize Nat.beq ty asserted = bb at h
        cases bb <;> simp only [cond_true, cond_false] at h
        · exact e1.trans (no h e1.wf)
        · split at h
          · cases ok <;> simp only [cond_true, cond_false] at h <;> cases h <;> exact e1
          · cases h
      · exact e1.trans (no h e1.wf)
      · cases h
    · cases h
  · unfold actCall at h
    split at h
    · have q := Res.bind_ok h; clear h; obtain ⟨⟨x1, t1⟩, h1, h⟩ := q
      have e1 := cell1_ext (env := env) (ofOpt_ok h1) hw
      simp only at h
      split at h
      · rename_i f caps
        cases hb : Inv.bodied X.P f <;> rw [hb] at h <;> simp only [cond_true, cond_false] at h
        · cases h
        · have q := Res.bind_ok h; clear h; obtain ⟨⟨l, t2⟩, h2, h⟩ := q
          simp only at h
          have e2 := e1.trans (opnds_ext (env := env) (ofOpt_ok h2) e1.wf)
          exact e2.trans (hX _ _ _ _ _ _ _ h e2.wf)
      · cases h
    · unfold actInvoke at h
      have q := Res.bind_ok h; clear h; obtain ⟨⟨x1, t1⟩, h1, h⟩ := q
      have e1 := cell1_ext (env := env) (ofOpt_ok h1) hw
      simp only at h
      split at h
      · split at h
        · rename_i f p hf hp
          cases hb : Inv.bodied X.P f <;> rw [hb] at h <;> simp only [cond_true, cond_false] at h
          · cases h
          · have q := Res.bind_ok h; clear h; obtain ⟨⟨l, t2⟩, h2, h⟩ := q
            simp only at h
            have e2 := e1.trans (opnds_ext (env := env) (ofOpt_ok h2) e1.wf)
            exact e2.trans (hX _ _ _ _ _ _ _ h e2.wf)
        · cases h
      · cases h
    · unfold actLen at h
      split at h
      · split at h
        · have q := Res.bind_ok h; clear h; obtain ⟨⟨x1, t1⟩, h1, h⟩ := q
          have e1 := cell1_ext (env := env) (ofOpt_ok h1) hw
          simp only at h
          split at h
          · cases h; exact e1
          · cases h; exact e1
          · cases h
        · cases h
      · cases h
    · cases h
  · exact slice_ext h hw
  · exact toArr_ext h hw
  · unfold actPanic at h
    have q := Res.bind_ok h; clear h; obtain ⟨⟨x1, t1⟩, h1, h⟩ := q
    simp only at h
    split at h
    · generalize C.bare _ = bb at h
      cases bb <;> cases h
    · cases h
  · cases h

theorem step_ext {X : Ctx} (hX : CallExt env X) {rd : Mm} {top : Nat} {o : Oper} {s s' : S} (h : (step X rd top o s).sel env = some s') (hw : WF s.t) : Ext env s.t s'.t := by
  unfold step at h
  split at h
  · have q := Res.bind_ok h; clear h; obtain ⟨⟨k, id, cs, t'⟩, h1, h⟩ := q
    cases h
    unfold storeAt at h1
    have q := Res.bind_ok h1; clear h1; obtain ⟨⟨x1, t1⟩, h2, h1⟩ := q
    have q := Res.bind_ok h1; clear h1; obtain ⟨⟨y1, t2⟩, h3, h1⟩ := q
    have e1 := cell1_ext (env := env) (ofOpt_ok h2) hw
    have e2 := e1.trans (part1_ext (env := env) (ofOpt_ok h3) e1.wf)
    simp only at h1
    split at h1
    · split at h1
      · generalize hb : (Nat.beq _ _ && _) = bb at h1
        cases bb <;> simp only [cond_true, cond_false] at h1 <;> cases h1
        exact e2
      · cases h1
    · cases h1
  · have q := Res.bind_ok h; clear h; obtain ⟨⟨v, new, nid', t'⟩, h1, h⟩ := q
    cases h
    exact act_ext hX h1 hw
theorem run_ext {X : Ctx} (hX : CallExt env X) {rd : Mm} {top : Nat} {ops : Array Oper} : ∀ {l : List Oper} {s s' : S}, (run X rd top ops l s).sel env = some s' → WF s.t → Ext env s.t s'.t
  | [], s, s', h, hw => by cases h; exact Ext.refl hw
  | o :: l, s, s', h, hw => by
    unfold run at h
    have q := Res.bind_ok h; clear h; obtain ⟨⟨b, t1⟩, h1, h⟩ := q
    have e0 := wants_ext h1 hw
    cases b <;> simp only [cond_true, cond_false] at h
    · exact e0.trans (run_ext (s := { s with t := t1, tm := putA s.tm o.dst (.tup []) }) hX h e0.wf)
    · have q := Res.bind_ok h; clear h; obtain ⟨s1, h2, h⟩ := q
      have e1 := e0.trans (step_ext (s := { s with t := t1 }) hX h2 e0.wf)
      exact e1.trans (run_ext hX h e1.wf)
def DrExt (env : Nat → Sc) (dr : Array Oper → S → Res S) : Prop := ∀ ops s s', (dr ops s).sel env = some s' → WF s.t → Ext env s.t s'.t
theorem rounds_ext {f : S → Res (Ex × S)} (hf : ∀ s r, (f s).sel env = some r → WF s.t → Ext env s.t r.2.t) : ∀ (n : Nat) {s : S} {r : Ex × S}, (rounds f n s).sel env = some r → WF s.t → Ext env s.t r.2.t
  | 0, s, r, h, _ => by cases h
  | n + 1, s, r, h, hw => by
    unfold rounds at h
    have q := Res.bind_ok h; clear h; obtain ⟨⟨ex, s1⟩, h1, h⟩ := q
    have e1 := hf _ _ h1 hw
    cases ex with
    | normal => exact e1.trans (rounds_ext hf n h e1.wf)
    | exit id => cases h; exact e1
    | ret => cases h; exact e1
theorem code_ext {X : Ctx} (hX : CallExt env X) {rd : Mm} {top : Nat} {dr : Array Oper → S → Res S} (hD : DrExt env dr) {fuel : Nat} : ∀ (c : Code) {s : S} {r : Ex × S}, (code X rd top dr fuel c s).sel env = some r → WF s.t → Ext env s.t r.2.t := by
  intro c
  induction c with
  | skip => intro s r h hw; cases h; exact Ext.refl hw
  | label l => intro s r h hw; cases h; exact Ext.refl hw
  | exit id => intro s r h hw; cases h; exact Ext.refl hw
  | ret => intro s r h hw; cases h; exact Ext.refl hw
  | region id ops d =>
    intro s r h hw
    unfold code at h
    cases d <;> simp only [cond_true, cond_false] at h <;> (have q := Res.bind_ok h; clear h; obtain ⟨s1, h1, h⟩ := q; cases h)
    · exact run_ext hX h1 hw
    · exact hD _ _ _ h1 hw
  | seq x y ihx ihy =>
    intro s r h hw
    unfold code at h
    have q := Res.bind_ok h; clear h; obtain ⟨⟨ex1, s1⟩, h1, h⟩ := q
    have e1 := ihx h1 hw
    cases ex1 with
    | normal => exact e1.trans (ihy h e1.wf)
    | exit id => cases h; exact e1
    | ret => cases h; exact e1
  | cond c x y ihx ihy =>
    intro s r h hw
    unfold code at h
    have q := Res.bind_ok h; clear h; obtain ⟨⟨c1, t1⟩, h1, h⟩ := q
    have q := Res.bind_ok h; clear h; obtain ⟨⟨v, t2⟩, h2, h⟩ := q
    have e0 := cell1_ext (env := env) (ofOpt_ok h1) hw
    have e1 := e0.trans (truth_ext h2 e0.wf)
    cases v <;> simp only [cond_true, cond_false] at h
    · exact e1.trans (ihy h e1.wf)
    · exact e1.trans (ihx h e1.wf)
  | block id x ih =>
    intro s r h hw
    unfold code at h
    have q := Res.bind_ok h; clear h; obtain ⟨⟨ex1, s1⟩, h1, h⟩ := q
    have e1 := ih h1 hw
    cases ex1 <;> cases h <;> exact e1
  | loop x ih =>
    intro s r h hw
    unfold code at h
    exact rounds_ext (fun s r h hw => ih h hw) fuel h hw
  | rangeFunc f ps x y _ _ => intro s r h; unfold code at h; cases h
  | scope x _ => intro s r h; unfold code at h; cases h
  | goto l => intro s r h; unfold code at h; cases h
  | refuse w => intro s r h; unfold code at h; cases h

/-! the same where a test is not decided -/
end
end Go.Sx
