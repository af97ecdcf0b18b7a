/- Contracts: WayOf, both sides. -/
import Derived.Test.YtpaangcbcknhlaaWayE
import Derived.BigQuiet
namespace Go.Proofs.Ytpaangcbcknhlaa
--## d
open Go.RowKit Go.Mem
set_option linter.unusedSimpArgs false
set_option linter.unusedVariables false
set_option maxRecDepth 20000
--## d
def wayV (ss : List S5) (os : List Int) (ts : List Bool) (p : M2) : Value := if codeO ss os ts p = 0 then .tuple #[.int .i64 (wayF p (legs ss os ts ss.length)).2, .int .i64 0] else .tuple #[.int .i64 0, .int .i64 (codeO ss os ts p)]
--## d
theorem codeO_cases (ss : List S5) (os : List Int) (ts : List Bool) (p : M2) : codeO ss os ts p = 0 ∨ codeO ss os ts p = 1 ∨ codeO ss os ts p = 2 ∨ codeO ss os ts p = 3 := by
  unfold codeO
  rcases codeK_cases ss [p] with h | h | h <;> rw [h] <;> simp
  split <;> simp
--## d
theorem codeO_ok {ss : List S5} {os : List Int} {ts : List Bool} {p : M2} (h : codeO ss os ts p = 0) : allK ss = true ∧ okM p.1 p.2 = true ∧ ss.length ≤ 60 ∧ os.length = ss.length ∧ ts.length = ss.length ∧ goodO ss.length os = true := by
  have hk : codeK ss [p] = 0 := by
    unfold codeO at h
    split at h
    · assumption
    · assumption
  have h2 : os.length = ss.length ∧ ts.length = ss.length ∧ goodO ss.length os = true := by
    unfold codeO at h
    rw [if_pos hk] at h
    split at h
    · assumption
    · cases h
  unfold codeK at hk
  rw [allM_one] at hk
  cases ha : allK ss <;> cases hm : okM p.1 p.2 <;> rw [ha, hm] at hk <;> simp at hk
  exact ⟨rfl, rfl, hk, h2⟩
--## d
def lgK (ss : List S5) (os : List Int) (ts : List Bool) (i : Nat) : S5 := legK (ss.getD (os.getD i 0).toNat (0, 0, 0, 0, 0)) (ts.getD i false)
--## d
theorem legsG_eq (ss : List S5) (os : List Int) (ts : List Bool) (n : Nat) : legsG (lgK ss os ts) n = legs ss os ts n := by
  unfold legsG legs
  congr 1
  funext i
  unfold legE lgK leg
  rw [(legK_ends _ _).1, (legK_ends _ _).2]
--## d
set_option maxHeartbeats 400000 in
theorem routeOfI (a1 a2 a3 : Option Addr) (n1 n2 n3 c1 c2 c3 : Nat) (w : World) : Calls Try.prog 105 #[.slice a1 n1 c1, .slice a2 n2 c2, .slice a3 n3 c3] w (fun e w' => e = .returned (.func (.func 141) #[] #[.pointer (some ⟨w.heap.size, 0, none⟩), .pointer (some ⟨w.heap.size + 1, 0, none⟩), .pointer (some ⟨w.heap.size + 2, 0, none⟩)]) ∧ w'.cell? ⟨w.heap.size, 0, none⟩ = some (.slice a1 n1 c1) ∧ w'.cell? ⟨w.heap.size + 1, 0, none⟩ = some (.slice a2 n2 c2) ∧ w'.cell? ⟨w.heap.size + 2, 0, none⟩ = some (.slice a3 n3 c3) ∧ w.heap.size + 2 < w'.heap.size ∧ Below w.heap.size w w') := by
  have hmf : ∀ (fn : Fn) (first cap : Array Value) (w : World), (Instr.makeFunc fn first cap).run Try.prog w = .ok (.func fn first cap) w := fun _ _ _ _ => rfl
  go_enter Try.func105, Try.ntmps105
  go_wp2_with fail
  simp [bodyPost, results, Try.results105, go_sem]
  exact (by ((try simp only [Hid] at *); repeat' (first | (with_reducible exact Below.refl _ _) | (with_reducible assumption) | (with_reducible refine below_drewN ?_ _) | (with_reducible refine Below.drew ?_) | (with_reducible refine below_alloc ?_) | (with_reducible refine below_set ?_ ?_) | (refine below_step (by with_reducible assumption) ?_) | (simp; done) | (simp; omega) | omega)))
--## d
set_option maxHeartbeats 4000000 in
theorem WayOfS (v x y : Value) (ss : List S5) (os : List Int) (ts : List Bool) (p : M2) (w : World) (hP : Rls 5 w v (rK ss)) (hO : Rls 1 w x (rJ os)) (hT : Rls 1 w y (rB ts)) (hn : ss.length ≤ 1048576) (hwf : ∀ s ∈ ss, wfK s) (hno : os.length ≤ 1048576) (hnt : ts.length ≤ 1048576) (hp : I16 p.1 ∧ I16 p.2) :
    Calls Try.prog 45 #[v, x, y, mkM p] w (Gives (fun r => r = wayV ss os ts p) w) := by
  have A : Aside (Rls 5 w v (rK ss) ∧ Rls 1 w x (rJ os) ∧ Rls 1 w y (rB ts) ∧ ss.length ≤ 1048576 ∧ (∀ s ∈ ss, wfK s) ∧ os.length ≤ 1048576 ∧ ts.length ≤ 1048576 ∧ (I16 p.1 ∧ I16 p.2)) := ⟨hP, hO, hT, hn, hwf, hno, hnt, hp⟩
  obtain ⟨a, c, rfl, _⟩ := hP
  obtain ⟨a2, c2, rfl, _⟩ := hO
  obtain ⟨a3, c3, rfl, _⟩ := hT
  rw [rK_len, rJ_len, rB_len] at *
  clear hwf hno hnt hp hn
  have HV : Aside (wayV ss os ts p = if codeO ss os ts p = 0 then .tuple #[.int .i64 (wayF p (legs ss os ts ss.length)).2, .int .i64 0] else .tuple #[.int .i64 0, .int .i64 (codeO ss os ts p)]) := rfl
  rcases codeO_cases ss os ts p with hk | hk | hk | hk
  · obtain ⟨hall, hpm, hl60, hlo, hlt, hgo⟩ := codeO_ok hk
    have HC : Aside (codeO ss os ts p = 0) := hk
    have G : Aside (allK ss = true ∧ okM p.1 p.2 = true ∧ ss.length ≤ 60 ∧ os.length = ss.length ∧ ts.length = ss.length ∧ goodO ss.length os = true) := ⟨hall, hpm, hl60, hlo, hlt, hgo⟩
    rw [hk, if_pos rfl] at HV
    clear hk hall hpm hl60 hlo hlt hgo
    go_enter Try.func45, Try.ntmps45
    go_wp2_with (first | (go_at_call 102; refine (l06OrderS _ _ _ ss os ts p _ (A.out.1.below (below_alloc (Below.refl _ _))) (A.out.2.1.below (below_alloc (Below.refl _ _))) (A.out.2.2.1.below (below_alloc (Below.refl _ _))) A.out.2.2.2.1 A.out.2.2.2.2.1 A.out.2.2.2.2.2.1 A.out.2.2.2.2.2.2.1 A.out.2.2.2.2.2.2.2).mono ?_; rintro e w' ⟨_, rfl, rfl, hb⟩; rw [HC.out]; obtain ⟨hc, hf⟩ := bcell hb; (try simp at hc hf); have hs := hb.size; (try simp at hs); have hz0 : w.heap.size < w'.heap.size := (by omega); have HB1 : Aside (Below w.heap.size w w') := below_step hb (below_alloc (Below.refl _ _)); clear hb) | (go_at_call 103; refine (l06WayS _ _ _ ss os ts p _ (A.out.1.below HB1.out) (A.out.2.1.below HB1.out) (A.out.2.2.1.below HB1.out) G.out.2.2.1 G.out.1 (okM_bd5 G.out.2.1) G.out.2.2.2.1 G.out.2.2.2.2.1 G.out.2.2.2.2.2).mono ?_; rintro e w2 ⟨_, rfl, rfl, hb⟩; have HB2 : Aside (Below w.heap.size w w2) := below_step hb HB1.out; clear hb))
    simp [bodyPost, results, Try.results45, go_sem]
    exact ⟨_, rfl, by rw [HV.out, G.out.2.2.2.1], HB2.out⟩
  · have HC : Aside (codeO ss os ts p = 1) := hk
    rw [hk, if_neg (by decide)] at HV
    clear hk
    go_enter Try.func45, Try.ntmps45
    go_wp2_with (go_at_call 102; refine (l06OrderS _ _ _ ss os ts p _ (A.out.1.below (below_alloc (Below.refl _ _))) (A.out.2.1.below (below_alloc (Below.refl _ _))) (A.out.2.2.1.below (below_alloc (Below.refl _ _))) A.out.2.2.2.1 A.out.2.2.2.2.1 A.out.2.2.2.2.2.1 A.out.2.2.2.2.2.2.1 A.out.2.2.2.2.2.2.2).mono ?_; rintro e w' ⟨_, rfl, rfl, hb⟩; rw [HC.out]; obtain ⟨hc, hf⟩ := bcell hb; (try simp at hc hf); have hs := hb.size; (try simp at hs); have hz0 : w.heap.size < w'.heap.size := (by omega); have HB1 : Aside (Below w.heap.size w w') := below_step hb (below_alloc (Below.refl _ _)); clear hb)
    simp [bodyPost, results, Try.results45, go_sem]
    exact ⟨_, rfl, by rw [HV.out], HB1.out⟩
  · have HC : Aside (codeO ss os ts p = 2) := hk
    rw [hk, if_neg (by decide)] at HV
    clear hk
    go_enter Try.func45, Try.ntmps45
    go_wp2_with (go_at_call 102; refine (l06OrderS _ _ _ ss os ts p _ (A.out.1.below (below_alloc (Below.refl _ _))) (A.out.2.1.below (below_alloc (Below.refl _ _))) (A.out.2.2.1.below (below_alloc (Below.refl _ _))) A.out.2.2.2.1 A.out.2.2.2.2.1 A.out.2.2.2.2.2.1 A.out.2.2.2.2.2.2.1 A.out.2.2.2.2.2.2.2).mono ?_; rintro e w' ⟨_, rfl, rfl, hb⟩; rw [HC.out]; obtain ⟨hc, hf⟩ := bcell hb; (try simp at hc hf); have hs := hb.size; (try simp at hs); have hz0 : w.heap.size < w'.heap.size := (by omega); have HB1 : Aside (Below w.heap.size w w') := below_step hb (below_alloc (Below.refl _ _)); clear hb)
    simp [bodyPost, results, Try.results45, go_sem]
    exact ⟨_, rfl, by rw [HV.out], HB1.out⟩
  · have HC : Aside (codeO ss os ts p = 3) := hk
    rw [hk, if_neg (by decide)] at HV
    clear hk
    go_enter Try.func45, Try.ntmps45
    go_wp2_with (go_at_call 102; refine (l06OrderS _ _ _ ss os ts p _ (A.out.1.below (below_alloc (Below.refl _ _))) (A.out.2.1.below (below_alloc (Below.refl _ _))) (A.out.2.2.1.below (below_alloc (Below.refl _ _))) A.out.2.2.2.1 A.out.2.2.2.2.1 A.out.2.2.2.2.2.1 A.out.2.2.2.2.2.2.1 A.out.2.2.2.2.2.2.2).mono ?_; rintro e w' ⟨_, rfl, rfl, hb⟩; rw [HC.out]; obtain ⟨hc, hf⟩ := bcell hb; (try simp at hc hf); have hs := hb.size; (try simp at hs); have hz0 : w.heap.size < w'.heap.size := (by omega); have HB1 : Aside (Below w.heap.size w w') := below_step hb (below_alloc (Below.refl _ _)); clear hb)
    simp [bodyPost, results, Try.results45, go_sem]
    exact ⟨_, rfl, by rw [HV.out], HB1.out⟩
--## d
set_option maxHeartbeats 4000000 in
theorem WayOfI (v x y : Value) (ss : List S5) (os : List Int) (ts : List Bool) (p : M2) (w : World) (hP : Rls 5 w v (rK ss)) (hO : Rls 1 w x (rJ os)) (hT : Rls 1 w y (rB ts)) (hn : ss.length ≤ 1048576) (hwf : ∀ s ∈ ss, wfK s) (hno : os.length ≤ 1048576) (hnt : ts.length ≤ 1048576) (hp : I16 p.1 ∧ I16 p.2) :
    Calls Try.prog 49 #[v, x, y, mkM p] w (Gives (fun r => r = wayV ss os ts p) w) := by
  have A : Aside (Rls 5 w v (rK ss) ∧ Rls 1 w x (rJ os) ∧ Rls 1 w y (rB ts) ∧ ss.length ≤ 1048576 ∧ (∀ s ∈ ss, wfK s) ∧ os.length ≤ 1048576 ∧ ts.length ≤ 1048576 ∧ (I16 p.1 ∧ I16 p.2)) := ⟨hP, hO, hT, hn, hwf, hno, hnt, hp⟩
  obtain ⟨a, c, rfl, _⟩ := hP
  obtain ⟨a2, c2, rfl, _⟩ := hO
  obtain ⟨a3, c3, rfl, _⟩ := hT
  rw [rK_len, rJ_len, rB_len] at *
  clear hwf hno hnt hp hn
  have HV : Aside (wayV ss os ts p = if codeO ss os ts p = 0 then .tuple #[.int .i64 (wayF p (legs ss os ts ss.length)).2, .int .i64 0] else .tuple #[.int .i64 0, .int .i64 (codeO ss os ts p)]) := rfl
  rcases codeO_cases ss os ts p with hk | hk | hk | hk
  · obtain ⟨hall, hpm, hl60, hlo, hlt, hgo⟩ := codeO_ok hk
    have HC : Aside (codeO ss os ts p = 0) := hk
    have G : Aside (allK ss = true ∧ okM p.1 p.2 = true ∧ ss.length ≤ 60 ∧ os.length = ss.length ∧ ts.length = ss.length ∧ goodO ss.length os = true) := ⟨hall, hpm, hl60, hlo, hlt, hgo⟩
    rw [hk, if_pos rfl] at HV
    clear hk hall hpm hl60 hlo hlt hgo
    go_enter Try.func49, Try.ntmps49
    go_wp2_with (go_at_call 104; refine (checkOrderI _ _ _ ss os ts p _ (A.out.1.below (below_alloc (Below.refl _ _))) (A.out.2.1.below (below_alloc (Below.refl _ _))) (A.out.2.2.1.below (below_alloc (Below.refl _ _))) A.out.2.2.2.1 A.out.2.2.2.2.1 A.out.2.2.2.2.2.1 A.out.2.2.2.2.2.2.1).mono ?_; rintro e w' ⟨_, rfl, rfl, hb⟩; rw [HC.out]; obtain ⟨hc, hf⟩ := bcell hb; (try simp at hc hf); have hs := hb.size; (try simp at hs); have hz0 : w.heap.size < w'.heap.size := (by omega); have HB1 : Aside (Below w.heap.size w w') := below_step hb (below_alloc (Below.refl _ _)); clear hb)
    have hK : ∀ W, Bel w' W → W.cell? ⟨w.heap.size, 0, none⟩ = some (.int .i16 p.1) ∧ W.cell? ⟨w.heap.size, 1, none⟩ = some (.int .i16 p.2) ∧ Bel w' W := fun W hW => by
      obtain ⟨hcc, _⟩ := bcell hW.out
      exact ⟨by rw [hcc _ _ hz0, hc _ _ (by omega)]; simp [go_sem], by rw [hcc _ _ hz0, hc _ _ (by omega)]; simp [go_sem], hW⟩
    have HF : Aside (∀ (g : Nat) W, W.cell? ⟨g, 0, none⟩ = some (.slice a ss.length c) → W.cell? ⟨g + 1, 0, none⟩ = some (.slice a2 os.length c2) → W.cell? ⟨g + 2, 0, none⟩ = some (.slice a3 ts.length c3) → g + 2 < W.heap.size → Below w.heap.size w W → ∀ (i : Nat) W2, i < ss.length → Below W.heap.size W W2 → Calls Try.prog 141 #[.int .i64 (i : Int), .pointer (some ⟨g, 0, none⟩), .pointer (some ⟨g + 1, 0, none⟩), .pointer (some ⟨g + 2, 0, none⟩)] W2 (Gives (fun v => v = K5 (lgK ss os ts i)) W2)) := fun g W h1 h2 h3 h4 hB i W2 hi hB2 => by
      obtain ⟨hall, hpm, hl60, hlo, hlt, hgo⟩ := G.out
      have HBB := below_step hB2 hB
      obtain ⟨z, hz⟩ : ∃ z, os[i]? = some z := ⟨os[i]'(by omega), List.getElem?_eq_getElem (by omega)⟩
      have hzb := goodO_at hz hgo
      obtain ⟨j, rfl⟩ : ∃ j : Nat, z = (j : Int) := ⟨z.toNat, by omega⟩
      obtain ⟨s, hs⟩ : ∃ s, ss[j]? = some s := ⟨ss[j]'(by omega), List.getElem?_eq_getElem (by omega)⟩
      obtain ⟨t, ht⟩ : ∃ t, ts[i]? = some t := ⟨ts[i]'(by omega), List.getElem?_eq_getElem _⟩
      obtain ⟨b, c', e0, hbl, hcells⟩ := (A.out.1.below HBB).at (rK_get hs)
      obtain ⟨b2, c4, e1, hbl2, hcells2⟩ := (A.out.2.1.below HBB).at (rJ_get hz)
      obtain ⟨b3, c5, e2, hbl3, hcells3⟩ := (A.out.2.2.1.below HBB).at (rB_get ht)
      rw [rK_len] at e0
      rw [rJ_len] at e1
      rw [rB_len] at e2
      cases e0
      cases e1
      cases e2
      rw [Nat.mul_one] at hbl2 hbl3
      obtain ⟨hcc, _⟩ := bcell hB2
      have x2 := hcells2 0 _ rfl
      have x3 := hcells3 0 _ rfl
      rw [Nat.mul_one] at x2 x3
      have hsz := hB2.size
      have e : lgK ss os ts i = legK s t := by
        unfold lgK
        simp [List.getD_eq_getElem?_getD, hz, ht, hs]
      rw [e]
      rw [hlo] at h2
      rw [hlt] at h3
      exact routeI g (g + 1) (g + 2) b b2 b3 ss.length c c2 c3 i j s t W2 hi (by omega) hl60 (by rw [hcc _ _ (by omega)]; exact h1) (by rw [hcc _ _ (by omega)]; exact h2) (by rw [hcc _ _ (by omega)]; exact h3) x2 x3 (hcells 0 _ rfl) (hcells 1 _ rfl) (hcells 2 _ rfl) (hcells 3 _ rfl) (hcells 4 _ rfl) (by omega) (by omega) (by omega) hbl hbl2 hbl3
    have HLB : Aside (∀ i, i < ss.length → B500 (legE (lgK ss os ts i)).1 ∧ B500 (legE (lgK ss os ts i)).2) := fun i hi => by
      obtain ⟨hall, hpm, hl60, hlo, hlt, hgo⟩ := G.out
      obtain ⟨z, hz⟩ : ∃ z, os[i]? = some z := ⟨os[i]'(by omega), List.getElem?_eq_getElem (by omega)⟩
      have hzb := goodO_at hz hgo
      obtain ⟨s, hs⟩ : ∃ s, ss[z.toNat]? = some s := ⟨ss[z.toNat]'(by omega), List.getElem?_eq_getElem (by omega)⟩
      obtain ⟨t, ht⟩ : ∃ t, ts[i]? = some t := ⟨ts[i]'(by omega), List.getElem?_eq_getElem _⟩
      obtain ⟨_, h1, h2⟩ := leg_bd hz hs ht (allK_at hs hall)
      have e := legsG_eq ss os ts (i + 1)
      have e2 : legE (lgK ss os ts i) = leg ss os ts i := by
        unfold legE lgK leg
        rw [(legK_ends _ _).1, (legK_ends _ _).2]
      rw [e2]
      exact ⟨h1, h2⟩
    go_region_held3 (fun W => W.cell? ⟨w.heap.size, 0, none⟩ = some (.int .i16 p.1) ∧ W.cell? ⟨w.heap.size, 1, none⟩ = some (.int .i16 p.2) ∧ Bel w' W) (first | (with_reducible assumption) | (refine hK _ ?_; (repeat' (first | (with_reducible exact Bel.refl _) | (with_reducible assumption) | (with_reducible exact And.right (And.right (by assumption))) | (with_reducible refine Bel.drew ?_) | (with_reducible refine Bel.step ?_ hb))); done) | go_keep) (first | (go_at_call 105; refine (routeOfI a a2 a3 ss.length os.length ts.length c c2 c3 _).mono ?_; rintro e w2 ⟨rfl, r1, r2, r3, r4, hb⟩; have HB2 := Bel.step (And.right (And.right (by assumption))) hb; have HR := Lib.hid (And.intro r1 (And.intro r2 (And.intro r3 r4))); clear r1 r2 r3 r4) | (go_at_call 106; refine (wayI _ _ _ (lgK ss os ts) ss.length p _ G.out.2.2.1 (okM_bd5 G.out.2.1) HLB.out (HF.out _ _ HR.out.1 HR.out.2.1 HR.out.2.2.1 HR.out.2.2.2 (below_step HB2.out HB1.out))).mono ?_; rintro e w3 ⟨_, rfl, rfl, hb⟩; have HB3 := Bel.step (And.right (And.right (by assumption))) hb))
    all_goals go_wp2_with fail
    all_goals
      simp [bodyPost, results, Try.results49, go_sem]
      exact ⟨_, rfl, by rw [HV.out, legsG_eq], below_step HB3.out HB1.out⟩
  · have HC : Aside (codeO ss os ts p = 1) := hk
    rw [hk, if_neg (by decide)] at HV
    clear hk
    go_enter Try.func49, Try.ntmps49
    go_wp2_with (go_at_call 104; refine (checkOrderI _ _ _ ss os ts p _ (A.out.1.below (below_alloc (Below.refl _ _))) (A.out.2.1.below (below_alloc (Below.refl _ _))) (A.out.2.2.1.below (below_alloc (Below.refl _ _))) A.out.2.2.2.1 A.out.2.2.2.2.1 A.out.2.2.2.2.2.1 A.out.2.2.2.2.2.2.1).mono ?_; rintro e w' ⟨_, rfl, rfl, hb⟩; rw [HC.out]; obtain ⟨hc, hf⟩ := bcell hb; (try simp at hc hf); have hs := hb.size; (try simp at hs); have hz0 : w.heap.size < w'.heap.size := (by omega); have HB1 : Aside (Below w.heap.size w w') := below_step hb (below_alloc (Below.refl _ _)); clear hb)
    simp [bodyPost, results, Try.results49, go_sem]
    exact ⟨_, rfl, by rw [HV.out], HB1.out⟩
  · have HC : Aside (codeO ss os ts p = 2) := hk
    rw [hk, if_neg (by decide)] at HV
    clear hk
    go_enter Try.func49, Try.ntmps49
    go_wp2_with (go_at_call 104; refine (checkOrderI _ _ _ ss os ts p _ (A.out.1.below (below_alloc (Below.refl _ _))) (A.out.2.1.below (below_alloc (Below.refl _ _))) (A.out.2.2.1.below (below_alloc (Below.refl _ _))) A.out.2.2.2.1 A.out.2.2.2.2.1 A.out.2.2.2.2.2.1 A.out.2.2.2.2.2.2.1).mono ?_; rintro e w' ⟨_, rfl, rfl, hb⟩; rw [HC.out]; obtain ⟨hc, hf⟩ := bcell hb; (try simp at hc hf); have hs := hb.size; (try simp at hs); have hz0 : w.heap.size < w'.heap.size := (by omega); have HB1 : Aside (Below w.heap.size w w') := below_step hb (below_alloc (Below.refl _ _)); clear hb)
    simp [bodyPost, results, Try.results49, go_sem]
    exact ⟨_, rfl, by rw [HV.out], HB1.out⟩
  · have HC : Aside (codeO ss os ts p = 3) := hk
    rw [hk, if_neg (by decide)] at HV
    clear hk
    go_enter Try.func49, Try.ntmps49
    go_wp2_with (go_at_call 104; refine (checkOrderI _ _ _ ss os ts p _ (A.out.1.below (below_alloc (Below.refl _ _))) (A.out.2.1.below (below_alloc (Below.refl _ _))) (A.out.2.2.1.below (below_alloc (Below.refl _ _))) A.out.2.2.2.1 A.out.2.2.2.2.1 A.out.2.2.2.2.2.1 A.out.2.2.2.2.2.2.1).mono ?_; rintro e w' ⟨_, rfl, rfl, hb⟩; rw [HC.out]; obtain ⟨hc, hf⟩ := bcell hb; (try simp at hc hf); have hs := hb.size; (try simp at hs); have hz0 : w.heap.size < w'.heap.size := (by omega); have HB1 : Aside (Below w.heap.size w w') := below_step hb (below_alloc (Below.refl _ _)); clear hb)
    simp [bodyPost, results, Try.results49, go_sem]
    exact ⟨_, rfl, by rw [HV.out], HB1.out⟩
--## d
end Go.Proofs.Ytpaangcbcknhlaa
