/- A symbolic evaluator of closed terms: regions that draw their order, what is known of their blocks. -/
import Derived.Test.YtpainjecdolgiaaSxG
namespace Go.Sx
open Go Go.RowKit Go.Flo Go.Mem Go.Proofs.Ytpainjecdolgiaa
set_option linter.unusedVariables false
set_option linter.unusedSimpArgs false

theorem storesOf_mem : ∀ {l : List It} {n : Nat} {x : Nat × Nat × Nat × List C}, x ∈ storesOf l n → ∃ k it, x.1 = n + k ∧ l[k]? = some it ∧ it.st = some x.2
  | [], n, x, h => by cases h
  | it :: l, n, x, h => by
    unfold storesOf at h
    split at h
    · rename_i id off cs hs
      rcases List.mem_cons.1 h with rfl | h
      · exact ⟨0, it, rfl, rfl, hs⟩
      · obtain ⟨k, it', h1, h2, h3⟩ := storesOf_mem h
        exact ⟨k + 1, it', by omega, by simpa using h2, h3⟩
    · obtain ⟨k, it', h1, h2, h3⟩ := storesOf_mem h
      exact ⟨k + 1, it', by omega, by simpa using h2, h3⟩
theorem mem_storesOf : ∀ {l : List It} {n k : Nat} {it : It} {st : Nat × Nat × List C}, l[k]? = some it → it.st = some st → (n + k, st) ∈ storesOf l n
  | [], n, k, it, st, h, _ => by simp at h
  | x :: l, n, 0, it, st, h, hs => by
    simp only [List.getElem?_cons_zero, Option.some.injEq] at h
    subst h
    unfold storesOf
    rw [hs]; exact List.mem_cons_self
  | x :: l, n, k + 1, it, st, h, hs => by
    have := mem_storesOf (n := n + 1) (l := l) (k := k) (by simpa using h) hs
    unfold storesOf
    rw [show n + (k + 1) = n + 1 + k by omega]
    split
    · exact List.mem_cons_of_mem _ this
    · exact this
theorem storesTo_iff {id : Nat} : ∀ {ss : List (Nat × Nat × Nat × List C)} {y : Nat × Nat × List C}, y ∈ storesTo id ss ↔ (y.1, id, y.2) ∈ ss
  | [], y => by simp [storesTo]
  | x :: l, y => by
    unfold storesTo
    cases hb : Nat.beq id x.2.1 <;> simp only [cond_true, cond_false]
    · rw [storesTo_iff]
      constructor
      · exact List.mem_cons_of_mem _
      · intro h
        rcases List.mem_cons.1 h with h | h
        · exfalso
          rw [← h] at hb
          simp at hb
        · exact h
    · have e := beq_eq hb
      rw [List.mem_cons, List.mem_cons, storesTo_iff]
      refine or_congr ?_ Iff.rfl
      obtain ⟨x1, x2, x3, x4⟩ := x
      obtain ⟨y1, y2, y3⟩ := y
      simp only at e
      subst e
      simp
theorem storesOf_ge : ∀ {l : List It} {n : Nat} {x : Nat × Nat × Nat × List C}, x ∈ storesOf l n → n ≤ x.1 := fun {l n x} h => by
  obtain ⟨k, it, e, _⟩ := storesOf_mem h; omega
theorem storesOf_nodup : ∀ {l : List It} {n : Nat}, ((storesOf l n).map (·.1)).Nodup
  | [], n => List.nodup_nil
  | it :: l, n => by
    unfold storesOf
    split
    · rename_i id off cs hs
      simp only [List.map_cons, List.nodup_cons]
      refine ⟨fun h => ?_, storesOf_nodup⟩
      obtain ⟨x, hx, he⟩ := List.mem_map.1 h
      have := storesOf_ge hx
      omega
    · exact storesOf_nodup
theorem storesTo_nodup {id : Nat} : ∀ {ss : List (Nat × Nat × Nat × List C)}, (ss.map (·.1)).Nodup → ((storesTo id ss).map (·.1)).Nodup
  | [], _ => List.nodup_nil
  | x :: l, h => by
    simp only [List.map_cons, List.nodup_cons] at h
    unfold storesTo
    cases hb : Nat.beq id x.2.1 <;> simp only [cond_true, cond_false]
    · exact storesTo_nodup h.2
    · simp only [List.map_cons, List.nodup_cons]
      refine ⟨fun hm => ?_, storesTo_nodup h.2⟩
      obtain ⟨y, hy, he⟩ := List.mem_map.1 hm
      exact h.1 (List.mem_map.2 ⟨_, storesTo_iff.1 hy, he⟩)
theorem distinctN_nodup : ∀ {l : List Nat}, distinctN l = true → l.Nodup
  | [], _ => List.nodup_nil
  | x :: l, h => by
    unfold distinctN at h
    simp only [Bool.and_eq_true, Bool.not_eq_true', List.contains_eq_mem, decide_eq_false_iff_not] at h
    exact List.nodup_cons.2 ⟨h.1, distinctN_nodup h.2⟩
theorem blkOf_spec {ops : List Oper} {ss : List (Nat × Nat × Nat × List C)} {owner : Option Nat} {x : Nat × List C} {b : Blk} (h : blkOf ops ss owner x = some b) :
    b.owner = owner ∧ b.id = x.1 ∧ b.c0 = x.2 ∧ b.st = storesTo x.1 ss ∧ chained ops b.st = true ∧ ∀ y ∈ b.st, y.2.1 + y.2.2.length ≤ x.2.length ∧ ∀ j, owner = some j → ∃ o, ops[y.1]? = some o ∧ j ∈ depsOf o := by
  unfold blkOf at h
  cases hb : (((storesTo x.1 ss).all fun y => Nat.ble (y.2.1 + y.2.2.length) x.2.length && ownDep ops y.1 owner) && chained ops (storesTo x.1 ss)) <;> rw [hb] at h <;> simp only [cond_true, cond_false] at h
  · cases h
  · cases h
    simp only [Bool.and_eq_true] at hb
    refine ⟨rfl, rfl, rfl, rfl, hb.2, fun y hy => ?_⟩
    have h1 := List.all_eq_true.1 hb.1 y hy
    simp only [Bool.and_eq_true] at h1
    refine ⟨Nat.le_of_ble_eq_true h1.1, fun j hj => ?_⟩
    have h2 := h1.2
    rw [hj] at h2
    unfold ownDep at h2
    simp only at h2
    split at h2
    · rename_i o ho
      exact ⟨o, ho, by simpa using h2⟩
    · cases h2
/-- stores that wait: those behind one that has not come up have not come up -/
theorem reach_up {all : List Oper} {L : Nat → Bool} (dc : ∀ k o, all[k]? = some o → L k = true → ∀ j ∈ depsOf o, L j = true) : ∀ (n : Nat) {k i : Nat}, reachB all n k i = true → L k = true → L i = true
  | 0, k, i, h, _ => by cases h
  | n + 1, k, i, h, hk => by
    unfold reachB at h
    split at h
    · rename_i o ho
      obtain ⟨j, hj, hb⟩ := List.any_eq_true.1 h
      have hLj := dc k o ho hk j hj
      cases he : Nat.beq j i <;> rw [he] at hb <;> simp only [cond_true, cond_false] at hb
      · exact reach_up dc n hb hLj
      · rw [← beq_eq he]; exact hLj
    · cases h
theorem chained_behind {ops : List Oper} : ∀ {pre : List (Nat × Nat × List C)} {x : Nat × Nat × List C} {post : List (Nat × Nat × List C)}, chained ops (pre ++ x :: post) = true → ∀ y ∈ post, reachB ops 12 y.1 x.1 = true
  | [], x, post, h, y, hy => by
    have h' : ((post.all fun y => reachB ops 12 y.1 x.1) && chained ops post) = true := h
    simp only [Bool.and_eq_true] at h'
    exact List.all_eq_true.1 h'.1 y hy
  | z :: pre, x, post, h, y, hy => by
    have h' : ((((pre ++ x :: post).all fun y => reachB ops 12 y.1 z.1)) && chained ops (pre ++ x :: post)) = true := h
    simp only [Bool.and_eq_true] at h'
    exact chained_behind h'.2 y hy
/-- the cells, where just some stores have come up -/
def foldC (L : Nat → Bool) (c : List C) (l : List (Nat × Nat × List C)) : List C := l.foldl (fun c y => bif L y.1 then spliceC c y.2.1 y.2.2 else c) c
theorem foldC_none {L : Nat → Bool} : ∀ {l : List (Nat × Nat × List C)} {c : List C}, (∀ y ∈ l, L y.1 = false) → foldC L c l = c
  | [], c, _ => rfl
  | y :: l, c, h => by
    show foldC L (bif L y.1 then spliceC c y.2.1 y.2.2 else c) l = c
    rw [h y List.mem_cons_self]
    exact foldC_none fun z hz => h z (List.mem_cons_of_mem _ hz)
theorem foldC_congr {L L' : Nat → Bool} : ∀ {l : List (Nat × Nat × List C)} {c : List C}, (∀ y ∈ l, L y.1 = L' y.1) → foldC L c l = foldC L' c l
  | [], c, _ => rfl
  | y :: l, c, h => by
    show foldC L (bif L y.1 then spliceC c y.2.1 y.2.2 else c) l = foldC L' (bif L' y.1 then spliceC c y.2.1 y.2.2 else c) l
    rw [h y List.mem_cons_self]
    exact foldC_congr fun z hz => h z (List.mem_cons_of_mem _ hz)
theorem foldC_append {L : Nat → Bool} {l m : List (Nat × Nat × List C)} {c : List C} : foldC L c (l ++ m) = foldC L (foldC L c l) m := List.foldl_append
theorem spliceC_length : ∀ (cs : List C) (o : Nat) (ns : List C), (spliceC cs o ns).length = cs.length
  | cs, o, [] => by cases cs <;> cases o <;> rfl
  | [], o, n :: ns => by cases o <;> rfl
  | c :: cs, 0, n :: ns => by show (spliceC cs 0 ns).length + 1 = _; rw [spliceC_length cs 0 ns]; rfl
  | c :: cs, o + 1, n :: ns => by show (spliceC cs o (n :: ns)).length + 1 = _; rw [spliceC_length cs o (n :: ns)]; rfl
theorem foldC_length {L : Nat → Bool} : ∀ {l : List (Nat × Nat × List C)} {c : List C}, (foldC L c l).length = c.length
  | [], c => rfl
  | y :: l, c => by
    show (foldC L (bif L y.1 then spliceC c y.2.1 y.2.2 else c) l).length = _
    rw [foldC_length]
    cases L y.1
    · rfl
    · exact spliceC_length _ _ _
theorem foldC_all {L : Nat → Bool} : ∀ {l : List (Nat × Nat × List C)} {c : List C}, (∀ y ∈ l, L y.1 = true) → foldC L c l = l.foldl (fun c y => spliceC c y.2.1 y.2.2) c
  | [], c, _ => rfl
  | y :: l, c, h => by
    show foldC L (bif L y.1 then spliceC c y.2.1 y.2.2 else c) l = l.foldl _ (spliceC c y.2.1 y.2.2)
    rw [h y List.mem_cons_self]
    exact foldC_all fun z hz => h z (List.mem_cons_of_mem _ hz)
theorem blksOf_spec {ops : List Oper} {ss : List (Nat × Nat × Nat × List C)} {owner : Option Nat} : ∀ {M : Mm} {bs : List Blk}, blksOf ops ss owner M = some bs → (∀ b ∈ bs, ∃ x ∈ M, blkOf ops ss owner x = some b) ∧ (∀ x ∈ M, ∃ b ∈ bs, blkOf ops ss owner x = some b)
  | [], bs, h => by cases h; exact ⟨fun b h => (by cases h), fun b h => (by cases h)⟩
  | x :: M, bs, h => by
    unfold blksOf at h
    split at h
    · rename_i b bs' h1 h2
      cases h
      obtain ⟨g1, g2⟩ := blksOf_spec h2
      refine ⟨fun c hc => ?_, fun y hy => ?_⟩
      · rcases List.mem_cons.1 hc with rfl | hc
        · exact ⟨x, List.mem_cons_self, h1⟩
        · obtain ⟨y, a, b⟩ := g1 c hc; exact ⟨y, List.mem_cons_of_mem _ a, b⟩
      · rcases List.mem_cons.1 hy with rfl | hy
        · exact ⟨b, List.mem_cons_self, h1⟩
        · obtain ⟨z, a, b⟩ := g2 y hy; exact ⟨z, List.mem_cons_of_mem _ a, b⟩
    · cases h
theorem newBlks_spec {ops : List Oper} {ss : List (Nat × Nat × Nat × List C)} : ∀ {l : List It} {n : Nat} {bs : List Blk}, newBlks ops ss l n = some bs → (∀ b ∈ bs, ∃ k it, l[k]? = some it ∧ ∃ x ∈ it.new, blkOf ops ss (some (n + k)) x = some b) ∧ (∀ k it x, l[k]? = some it → x ∈ it.new → ∃ b ∈ bs, blkOf ops ss (some (n + k)) x = some b)
  | [], n, bs, h => by cases h; exact ⟨fun b h => (by cases h), fun k it x h => by simp at h⟩
  | it :: l, n, bs, h => by
    unfold newBlks at h
    split at h
    · rename_i b0 b1 h1 h2
      cases h
      obtain ⟨g1, g2⟩ := blksOf_spec h1
      obtain ⟨g3, g4⟩ := newBlks_spec h2
      refine ⟨fun b hb => ?_, fun k it' x hk hx => ?_⟩
      · rcases List.mem_append.1 hb with hb | hb
        · obtain ⟨x, a, c⟩ := g1 b hb; exact ⟨0, it, rfl, x, a, c⟩
        · obtain ⟨k, it', a, x, c, d⟩ := g3 b hb
          exact ⟨k + 1, it', by simpa using a, x, c, by rw [show n + (k + 1) = n + 1 + k by omega]; exact d⟩
      · cases k with
        | zero =>
          simp only [List.getElem?_cons_zero, Option.some.injEq] at hk
          subst hk
          obtain ⟨b, a, c⟩ := g2 x hx; exact ⟨b, List.mem_append_left _ a, c⟩
        | succ k =>
          obtain ⟨b, a, c⟩ := g4 k it' x (by simpa using hk) hx
          exact ⟨b, List.mem_append_right _ a, by rw [show n + (k + 1) = n + 1 + k by omega]; exact c⟩
    · cases h

/-- one block of many, and many out of each -/
theorem Mem.only {w0 W : World} {r l : Blocks} (h : Mem w0 W r l) {x : Nat × List Value} (hx : x ∈ l) : Mem w0 W r [x] :=
  ⟨h.below, h.old, fun y hy => (by
    rcases List.mem_cons.1 hy with rfl | hy
    · exact h.new _ hx
    · cases hy), by show [x.1].Nodup; simp⟩
theorem Mem.gather {w0 W : World} {r l : Blocks} (h0 : Mem w0 W r []) (h : ∀ x ∈ l, Mem w0 W r [x]) (hn : (l.map (·.1)).Nodup) : Mem w0 W r l :=
  ⟨h0.below, h0.old, fun x hx => (h x hx).new x List.mem_cons_self, hn⟩
theorem F2.choose {α β : Type} {R : α → β → Prop} {p : β → Prop} : ∀ {M : List α}, (∀ x ∈ M, ∃ y, R x y ∧ p y) → ∃ r, F2 R M r ∧ ∀ y ∈ r, p y
  | [], _ => ⟨[], .nil, fun y h => (by cases h)⟩
  | x :: M, h => by
    obtain ⟨y, h1, h2⟩ := h x List.mem_cons_self
    obtain ⟨r, h3, h4⟩ := F2.choose fun z hz => h z (List.mem_cons_of_mem _ hz)
    exact ⟨y :: r, .cons h1 h3, fun z hz => (by
      rcases List.mem_cons.1 hz with rfl | hz
      · exact h2
      · exact h4 z hz)⟩
theorem F2.mem {α β : Type} {R : α → β → Prop} : ∀ {l : List α} {m : List β}, F2 R l m → ∀ a ∈ l, ∃ b ∈ m, R a b
  | _, _, .nil, a, h => by cases h
  | _, _, .cons hr ht, a, h => by
    rcases List.mem_cons.1 h with rfl | h
    · exact ⟨_, List.mem_cons_self, hr⟩
    · obtain ⟨b, h1, h2⟩ := F2.mem ht a h; exact ⟨b, List.mem_cons_of_mem _ h1, h2⟩
theorem F2.of_get {α β : Type} {R : α → β → Prop} : ∀ {l : List α} {m : List β}, l.length = m.length → (∀ (i : Nat) (a : α) (b : β), l[i]? = some a → m[i]? = some b → R a b) → F2 R l m
  | [], [], _, _ => .nil
  | a :: l, b :: m, hl, h => .cons (h 0 a b rfl rfl) (F2.of_get (by simpa using hl) fun i x y hx hy => h (i + 1) x y (by simpa using hx) (by simpa using hy))
  | [], _ :: _, hl, _ => by simp at hl
  | _ :: _, [], hl, _ => by simp at hl

def Blk.cont (b : Blk) (L : Nat → Bool) : List C := foldC L b.c0 b.st
def Blk.here (b : Blk) (L : Nat → Bool) : Prop := match b.owner with | none => True | some j => L j = true

section
variable {env : Nat → Sc} {X : Ctx} {rd : Mm} {lo top : Nat} {ms0 : Nat → Nat} {K0 : Nat → Prop} {t0 : Tb} {w0 : World}
/-- what is known when just the operations with 'L' have come up -/
structure Fl (env : Nat → Sc) (rd : Mm) (w0 : World) (ops : List Oper) (its : List It) (blks : List Blk) (t0 T : Tb) (M0 : Mm) (base stride : Nat) (mss : Nat → Nat) (Ks : Nat → Prop) (r : Blocks) (L : Nat → Bool) (v : Nat → Value) (W : World) (ms : Nat → Nat) (K : Nat → Prop) : Prop where
  old : ∀ i, Ks i → K i ∧ ms i = mss i
  rng : ∀ i, K i → Ks i ∨ ∃ j, L j = true ∧ j < ops.length ∧ base + j * stride ≤ i ∧ i < base + j * stride + stride
  vals : ∀ j it, L j = true → its[j]? = some it → Ar (mkE env it.t ms K) it.v (v j)
  dc : ∀ k o, ops[k]? = some o → L k = true → ∀ j ∈ depsOf o, L j = true
  mem : Mem w0 W r []
  rdr : F2 (Br (mkE env t0 ms K)) rd r
  frz : ∀ x ∈ M0, K x.1 ∧ ∃ vs, F2 (Cr (mkE env t0 ms K)) x.2 vs ∧ Mem w0 W r [(ms x.1, vs)]
  blk : ∀ b ∈ blks, b.here L → K b.id ∧ ∃ vs, F2 (Cr (mkE env T ms K)) (b.cont L) vs ∧ Mem w0 W r [(ms b.id, vs)]
  inj : ∀ b ∈ blks, ∀ b' ∈ blks, b.here L → b'.here L → ms b.id = ms b'.id → b.id = b'.id

variable {ops : List Oper} {its : List It} {blks : List Blk} {t0 T : Tb} {M0 : Mm} {base stride : Nat} {mss : Nat → Nat} {Ks : Nat → Prop} {r : Blocks}
theorem put_ne {L : Nat → Bool} {i j : Nat} (h : j ≠ i) : Inv.put L i j = L j := by unfold Inv.put; rw [if_neg h]
theorem put_at {L : Nat → Bool} {i : Nat} : Inv.put L i i = true := by unfold Inv.put; rw [if_pos rfl]
theorem put_of {L : Nat → Bool} {i j : Nat} (h : L j = true) : Inv.put L i j = true := by unfold Inv.put; split <;> first | rfl | exact h
theorem upd_ne {v : Nat → Value} {u : Value} {i j : Nat} (h : j ≠ i) : Inv.upd v i u j = v j := by unfold Inv.upd; rw [if_neg h]
theorem upd_at {v : Nat → Value} {u : Value} {i : Nat} : Inv.upd v i u i = u := by unfold Inv.upd; rw [if_pos rfl]

/-- an operation that is no store has come up -/
theorem Fl.grow {L : Nat → Bool} {v : Nat → Value} {W : World} {ms : Nat → Nat} {K : Nat → Prop} (h : Fl env rd w0 ops its blks t0 T M0 base stride mss Ks r L v W ms K) (hw : WF T)
    {i : Nat} {o : Oper} (ho : ops[i]? = some o) (hL : L i = false) (hd : ∀ j ∈ depsOf o, L j = true) {it : It} (hit : its[i]? = some it)
    {nid' : Nat} {ti : Tb} (hT : Ext env it.t T) {v' : Value} {W' : World} (hD : Done env ti (base + i * stride) (base + i * stride + stride) ms K W (it.v, it.new, nid', it.t) v' W')
    (hst : ∀ b ∈ blks, ∀ y ∈ b.st, y.1 = i → False)
    (hnew : ∀ b ∈ blks, b.owner = some i → (b.id, b.c0) ∈ it.new ∧ ∀ y ∈ b.st, ∃ o', ops[y.1]? = some o' ∧ i ∈ depsOf o') :
    ∃ ms' K', Fl env rd w0 ops its blks t0 T M0 base stride mss Ks r (Inv.put L i) (Inv.upd v i v') W' ms' K' := by
  obtain ⟨ms', K', nl, e1, q2, q3, q4, q5, q6, q7⟩ := hD
  have hle : ∀ t : Tb, (mkE env t ms K).le (mkE env t ms' K') := fun t => ⟨Nat.le_refl _, fun _ _ => rfl, fun i hi => (q2 i hi).1, fun i hi => (q2 i hi).2⟩
  have hle1 : (mkE env it.t ms' K').le (mkE env T ms' K') := hT.up ms' K'
  have hcont : ∀ b ∈ blks, b.cont (Inv.put L i) = b.cont L := fun b hb =>
    foldC_congr fun y hy => put_ne fun e => hst b hb y hy e
  have hhere : ∀ b : Blk, b.here (Inv.put L i) → b.owner = some i ∨ b.here L := fun b hb => by
    unfold Blk.here at hb ⊢
    split at hb
    · exact .inr trivial
    · rename_i j hj
      by_cases e : j = i
      · exact .inl (by rw [hj, e])
      · right
        rw [put_ne e] at hb
        exact hb
  refine ⟨ms', K', fun j hj => ?_, fun j hj => ?_, fun j it' hj hit' => ?_, fun k o' hk hLk j hj => ?_, h.mem.call q6.below, h.rdr.mono fun _ _ => Br.mono (hle _), fun x hx => ?_, fun b hb hh => ?_, fun b hb b' hb' hh hh' he => ?_⟩
  · obtain ⟨a, b⟩ := h.old j hj
    obtain ⟨c, d⟩ := q2 j a
    exact ⟨c, d.trans b⟩
  · rcases q3 j hj with hj | ⟨h1, _, h3⟩
    · rcases h.rng j hj with hj | ⟨k, h1, h2⟩
      · exact .inl hj
      · exact .inr ⟨k, put_of h1, h2⟩
    · exact .inr ⟨i, put_at, (List.getElem?_eq_some_iff.1 ho).1, h1, h3⟩
  · by_cases e : j = i
    · subst e
      rw [upd_at]
      rw [hit] at hit'; cases hit'
      exact q5
    · rw [upd_ne e]
      rw [put_ne e] at hj
      exact (h.vals j it' hj hit').mono (hle _)
  · by_cases e : k = i
    · subst e
      rw [ho] at hk; cases hk
      exact put_of (hd j hj)
    · rw [put_ne e] at hLk
      exact put_of (h.dc k o' hk hLk j hj)
  · obtain ⟨k1, vs, k2, k3⟩ := h.frz x hx
    obtain ⟨g1, g2⟩ := q2 _ k1
    exact ⟨g1, vs, k2.mono fun _ _ => Cr.mono (hle _), by rw [g2]; exact k3.call q6.below⟩
  · rcases hhere b hh with hown | hold
    · obtain ⟨h1, h2⟩ := hnew b hb hown
      obtain ⟨y, hy, k1, k2, k3⟩ := F2.mem q7 _ h1
      have hc0 : b.cont (Inv.put L i) = b.c0 := by
        rw [hcont b hb]
        refine foldC_none fun z hz => ?_
        obtain ⟨o', ho', hd'⟩ := h2 z hz
        cases hLk : L z.1
        · rfl
        · have := h.dc z.1 o' ho' hLk i hd'
          rw [hL] at this; cases this
      have hj := Mem.only (Mem.join h.mem q6) (List.mem_append_left [] hy)
      obtain ⟨y1, y2⟩ := y
      have hy1 : y1 = ms' b.id := k2
      subst hy1
      refine ⟨k1, y2, ?_, hj⟩
      rw [hc0]
      exact k3.mono fun _ _ => Cr.mono hle1
    · obtain ⟨k1, vs, k2, k3⟩ := h.blk b hb hold
      obtain ⟨g1, g2⟩ := q2 _ k1
      refine ⟨g1, vs, ?_, ?_⟩
      · rw [hcont b hb]; exact k2.mono fun _ _ => Cr.mono (hle _)
      · rw [g2]; exact k3.call q6.below
  · have hlow : ∀ b ∈ blks, b.here L → ms' b.id = ms b.id ∧ ms b.id < W.heap.size := fun b hb hh => by
      obtain ⟨k1, vs, k2, k3⟩ := h.blk b hb hh
      exact ⟨(q2 _ k1).2, (k3.new _ List.mem_cons_self).2.1⟩
    have hnewb : ∀ b ∈ blks, b.owner = some i → ∃ (p : Nat) (y : Nat × List Value), it.new[p]? = some (b.id, b.c0) ∧ nl[p]? = some y ∧ y.1 = ms' b.id ∧ W.heap.size ≤ ms' b.id := fun b hb hown => by
      obtain ⟨h1, h2⟩ := hnew b hb hown
      obtain ⟨p, hp⟩ := List.getElem?_of_mem h1
      obtain ⟨y, hy, k1, k2, k3⟩ := F2.get q7 hp
      have k2' : y.1 = ms' b.id := k2
      exact ⟨p, y, hp, hy, k2', by rw [← k2']; exact (q6.new y (List.mem_of_getElem? hy)).1⟩
    rcases hhere b hh with ho1 | ho1 <;> rcases hhere b' hh' with ho2 | ho2
    · obtain ⟨p, y, a1, a2, a3, a4⟩ := hnewb b hb ho1
      obtain ⟨p', y', b1, b2, b3, b4⟩ := hnewb b' hb' ho2
      have hpp : p = p' := by
        have hlt : p < (nl.map (·.1)).length := by simp; exact (List.getElem?_eq_some_iff.1 a2).1
        refine (List.getElem?_inj hlt q6.apart).1 ?_
        simp only [List.getElem?_map, a2, b2, Option.map_some, a3, b3, he]
      subst hpp
      rw [a1] at b1
      simp only [Option.some.injEq, Prod.mk.injEq] at b1
      exact b1.1
    · obtain ⟨p, y, a1, a2, a3, a4⟩ := hnewb b hb ho1
      obtain ⟨b1, b2⟩ := hlow b' hb' ho2
      omega
    · obtain ⟨p, y, a1, a2, a3, a4⟩ := hnewb b' hb' ho2
      obtain ⟨b1, b2⟩ := hlow b hb ho1
      omega
    · obtain ⟨a1, a2⟩ := hlow b hb ho1
      obtain ⟨b1, b2⟩ := hlow b' hb' ho2
      exact h.inj b hb b' hb' ho1 ho2 (by rw [← a1, ← b1, he])

/-- a store has come up -/
theorem Fl.stored {L : Nat → Bool} {v : Nat → Value} {W : World} {ms : Nat → Nat} {K : Nat → Prop} (h : Fl env rd w0 ops its blks t0 T M0 base stride mss Ks r L v W ms K)
    {i : Nat} {o : Oper} (ho : ops[i]? = some o) (hd : ∀ j ∈ depsOf o, L j = true) {it : It} (hit : its[i]? = some it) (hv : it.v = .junk)
    {b : Blk} (hb : b ∈ blks) (hn : (blks.map (·.id)).Nodup) {off : Nat} {cs : List C} {pre post : List (Nat × Nat × List C)} (hbs : b.st = pre ++ (i, off, cs) :: post) (hpre : ∀ y ∈ pre, y.1 ≠ i) (hpost : ∀ y ∈ post, y.1 ≠ i ∧ L y.1 = false) (hL : L i = false) (hh : b.here L)
    (hfit : off + cs.length ≤ b.c0.length) {us : List Value} (hu : F2 (Cr (mkE env T ms K)) cs us) (hown : ∀ b' ∈ blks, b'.owner ≠ some i) (hst : ∀ b' ∈ blks, ∀ y ∈ b'.st, y.1 = i → b'.id = b.id) (hM0 : ∀ x ∈ M0, x.1 ≠ b.id ∧ ∃ b' ∈ blks, b'.id = x.1 ∧ b'.here L) (u : Value) :
    W.there (ms b.id) off us.length ∧ Fl env rd w0 ops its blks t0 T M0 base stride mss Ks r (Inv.put L i) (Inv.upd v i u) (W.setCells (ms b.id) off us) ms K := by
  obtain ⟨k1, vs, k2, k3⟩ := h.blk b hb hh
  have hcl : (b.cont L).length = b.c0.length := foldC_length
  have hlen := F2.length k2
  have hulen := F2.length hu
  obtain ⟨q1, q2⟩ := k3.store (k := 0) (b := ms b.id) (cs := vs) rfl off us (by omega)
  have hsame : ∀ b' ∈ blks, b'.id = b.id → b' = b := fun b' hb' he => by
    obtain ⟨p, hp⟩ := List.getElem?_of_mem hb
    obtain ⟨p', hp'⟩ := List.getElem?_of_mem hb'
    have hlt : p' < (blks.map (·.id)).length := by simp; exact (List.getElem?_eq_some_iff.1 hp').1
    have : p' = p := (List.getElem?_inj hlt hn).1 (by simp only [List.getElem?_map, hp, hp', Option.map_some, he])
    subst this
    rw [hp] at hp'; exact (Option.some.inj hp').symm
  have hher : ∀ b' ∈ blks, b'.here (Inv.put L i) → b'.here L := fun b' hb' hx => by
    unfold Blk.here at hx ⊢
    split at hx
    · trivial
    · rename_i j hj
      rw [put_ne (fun e => hown b' hb' (by rw [hj, e]))] at hx
      exact hx
  have hw0 : w0.heap.size ≤ ms b.id := (k3.new _ List.mem_cons_self).1
  refine ⟨q1, h.old, fun j hj => ?_, fun j it' hj hit' => ?_, fun k o' hk hLk j hj => ?_, h.mem.away hw0 (fun x hx => (by cases hx)) off us, h.rdr, fun x hx => ?_, fun b' hb' hx => ?_, fun b1 hb1 b2 hb2 h1 h2 he => h.inj b1 hb1 b2 hb2 (hher b1 hb1 h1) (hher b2 hb2 h2) he⟩
  · rcases h.rng j hj with hj | ⟨k, h1, h2⟩
    · exact .inl hj
    · exact .inr ⟨k, put_of h1, h2⟩
  · by_cases e : j = i
    · subst e
      rw [hit] at hit'; cases hit'
      rw [hv]; trivial
    · rw [upd_ne e]
      rw [put_ne e] at hj
      exact h.vals j it' hj hit'
  · by_cases e : k = i
    · subst e
      rw [ho] at hk; cases hk
      exact put_of (hd j hj)
    · rw [put_ne e] at hLk
      exact put_of (h.dc k o' hk hLk j hj)
  · obtain ⟨k1', vs', k2', k3'⟩ := h.frz x hx
    obtain ⟨hne, b', hb', hbx, hbh⟩ := hM0 x hx
    refine ⟨k1', vs', k2', k3'.away hw0 (fun y hy => ?_) off us⟩
    rcases List.mem_cons.1 hy with rfl | hy
    · exact fun e3 => hne (by rw [← hbx]; exact h.inj b' hb' b hb hbh hh (by rw [hbx]; exact e3))
    · cases hy
  · by_cases e : b'.id = b.id
    · have := hsame b' hb' e
      subst this
      refine ⟨k1, Mem.splice vs off us, ?_, q2⟩
      have : b'.cont (Inv.put L i) = spliceC (b'.cont L) off cs := by
        unfold Blk.cont
        rw [hbs, foldC_append, foldC_append]
        have e1 : foldC (Inv.put L i) b'.c0 pre = foldC L b'.c0 pre := foldC_congr fun y hy => put_ne (hpre y hy)
        rw [e1]
        generalize foldC L b'.c0 pre = c1
        show foldC (Inv.put L i) (bif Inv.put L i i then spliceC c1 off cs else c1) post = spliceC (foldC L (bif L i then spliceC c1 off cs else c1) post) off cs
        rw [put_at, hL]
        simp only [cond_true, cond_false]
        rw [foldC_none fun y hy => (hpost y hy).2, foldC_none fun y hy => by rw [put_ne (hpost y hy).1]; exact (hpost y hy).2]
      rw [this]
      exact F2.splice off k2 hu
    · obtain ⟨g1, ws, g2, g3⟩ := h.blk b' hb' (hher b' hb' hx)
      have hcont : b'.cont (Inv.put L i) = b'.cont L :=
        foldC_congr fun y hy => put_ne fun e2 => e (hst b' hb' y hy e2)
      refine ⟨g1, ws, by rw [hcont]; exact g2, g3.away hw0 (fun x hx2 => ?_) off us⟩
      rcases List.mem_cons.1 hx2 with rfl | hx2
      · exact fun e3 => e (h.inj b' hb' b hb (hher b' hb' hx) hh e3)
      · cases hx2
end

theorem flow_of {P : Program} {all : List Oper} {a : Act} {Q : Exit → Act → World → Prop} {F : (Nat → Bool) → (Nat → Value) → World → Prop}
    (h : ∀ i o, all[i]? = some o → ∀ L v W a1, F L v W → L i = false → (∀ e ∈ o.after, Region.binds .any e = true → L e.on = true) →
      (∀ j o' d, all[j]? = some o' → o'.dst = some d → Act.eval a1 (.tmp d) = v j) → (∀ d, (Inv.dsts all).contains d = false → Act.eval a1 (.tmp d) = a.eval (.tmp d)) →
      ∀ K : Act → World → Prop, Inv.Shut (∀ u W', F (Inv.put L i) (Inv.upd v i u) W' → K (a1.put o.dst u) W') →
      if Region.wanted o (yielded all.toArray a1.tmps) = true then Oper.wp P o a1 W K Q else K (a1.put o.dst undef) W) :
    ∀ (l : List Oper) (n : Nat), (∀ k, l[k]? = all[n + k]?) → Inv.Flow P all a Q F n l
  | [], n, _ => trivial
  | o :: l, n, hl => ⟨h n o (by have := hl 0; simpa using this.symm), flow_of h l (n + 1) fun k => by
      have := hl (k + 1)
      rw [show n + (k + 1) = n + 1 + k by omega] at this
      simpa using this⟩

theorem wantsD_sound {env : Nat → Sc} {X : Ctx} {all : List Oper} {o : Oper} {T : Tb} {tm : List A} {b : Bool × Tb} {a1 : Act} {ms : Nat → Nat} {K : Nat → Prop} (h : (wants X all.toArray o ⟨T, tm, [], 0⟩).sel env = some b) (hw : WF T) (htm : TmOk (mkE env T ms K) tm a1) (hf : FactsOk env T.fs T) :
    Region.wanted o (yielded all.toArray a1.tmps) = b.1 := by
  unfold wants at h
  split at h
  · rename_i hg
    cases h
    unfold Region.wanted; rw [hg]
  · rename_i j w hg
    split at h
    · cases h
    · rename_i d hd
      split at h
      · rename_i c hc
        have q := Res.bind_ok h; clear h; obtain ⟨⟨v, tv⟩, h1, h⟩ := q
        cases h
        rw [getT_eq] at hc
        have hv := truth_sound (env := env) (ms := ms) (K := K) h1 hw (hf) (htm d _ hc)
        simp only [List.getElem?_toArray] at hd
        cases hj : all[j]? with
        | none => rw [hj] at hd; cases hd
        | some o' =>
          rw [hj] at hd
          have hd' : o'.dst = some d := hd
          have := Inv.wanted_of (b := v) (want := w) hg hj hd' hv
          rw [this]
      · rename_i hc
        cases h
        rw [getT_eq] at hc
        obtain ⟨vs, hv, hvs⟩ := htm d _ hc
        cases hvs
        unfold Region.wanted yielded
        rw [hg]
        have hq : (all.toArray[j]?).bind (·.dst) = some d := hd
        simp only [hq, Option.bind_some]
        have hv' : a1.eval (.tmp d) = .tuple #[] := hv
        unfold Act.eval at hv'
        simp only [Array.getD_eq_getD_getElem?] at hv'
        cases ht : a1.tmps[d]? with
        | none => rfl
        | some x => rw [ht] at hv'; simp at hv'; rw [hv']; rfl
      · cases h
end Go.Sx
