/- Contracts: the way of a pen (the model's side). -/
import Derived.Test.YtpaangcbcknhlaaWayC
import Derived.Deep.CutBlock
import Derived.Deep.RegionLaw
namespace Go.Proofs.Ytpaangcbcknhlaa
--## d
open Go.RowKit Go.Mem
set_option linter.unusedSimpArgs false
set_option linter.unusedVariables false
set_option maxRecDepth 20000
--## d
abbrev M2 := Int × Int
--## d
def endA (s : S5) (t : Bool) : M2 := if t then (s.2.2.1, s.2.2.2.1) else (s.1, s.2.1)
--## d
def endB (s : S5) (t : Bool) : M2 := if t then (s.1, s.2.1) else (s.2.2.1, s.2.2.2.1)
--## d
def leg (ss : List S5) (os : List Int) (ts : List Bool) (i : Nat) : M2 × M2 := (endA (ss.getD (os.getD i 0).toNat (0, 0, 0, 0, 0)) (ts.getD i false), endB (ss.getD (os.getD i 0).toNat (0, 0, 0, 0, 0)) (ts.getD i false))
--## d
def legs (ss : List S5) (os : List Int) (ts : List Bool) (n : Nat) : List (M2 × M2) := (List.range n).map (leg ss os ts)
--## d
def wayF (p : M2) (ls : List (M2 × M2)) : M2 × Int := ls.foldl (fun a l => (l.2, a.2 + distF a.1.1 a.1.2 l.1.1 l.1.2)) (p, 0)
--## d
theorem way_snoc (p : M2) (ss : List S5) (os : List Int) (ts : List Bool) (n : Nat) : wayF p (legs ss os ts (n + 1)) = ((leg ss os ts n).2, (wayF p (legs ss os ts n)).2 + distF (wayF p (legs ss os ts n)).1.1 (wayF p (legs ss os ts n)).1.2 (leg ss os ts n).1.1 (leg ss os ts n).1.2) := by
  unfold wayF legs
  rw [List.range_succ, List.map_append, List.foldl_append]
  rfl
--## d
def B500 (m : M2) : Prop := (-500 ≤ m.1 ∧ m.1 ≤ 500) ∧ (-500 ≤ m.2 ∧ m.2 ≤ 500)
--## d
theorem B500.i16 {m : M2} (h : B500 m) : I16 m.1 ∧ I16 m.2 := by
  unfold B500 at h
  unfold I16
  omega
--## d
theorem okM_bd5 {x y : Int} (h : okM x y = true) : (-500 ≤ x ∧ x ≤ 500) ∧ (-500 ≤ y ∧ y ≤ 500) := by
  simp [okM, inB] at h
  omega
--## d
theorem okK_bd {s : S5} (h : okK s = true) : B500 (s.1, s.2.1) ∧ B500 (s.2.2.1, s.2.2.2.1) := by
  unfold okK okS at h
  simp only [Bool.and_eq_true] at h
  exact ⟨okM_bd5 h.1.1, okM_bd5 h.1.2⟩
--## d
theorem end_bd {s : S5} {t : Bool} (h : okK s = true) : B500 (endA s t) ∧ B500 (endB s t) := by
  have := okK_bd h
  cases t
  · exact this
  · exact ⟨this.2, this.1⟩
--## d
theorem dist_bd1 {m n : M2} (hm : B500 m) (hn : B500 n) : 0 ≤ distF m.1 m.2 n.1 n.2 ∧ distF m.1 m.2 n.1 n.2 ≤ 1000 := by
  have := dist_bd hm.1 hm.2 hn.1 hn.2
  exact ⟨this.1, this.2.1⟩
--## d
theorem leg_bd {ss : List S5} {os : List Int} {ts : List Bool} {i : Nat} {z : Int} {s : S5} {t : Bool} (hz : os[i]? = some z) (hs : ss[z.toNat]? = some s) (ht : ts[i]? = some t) (hk : okK s = true) : leg ss os ts i = (endA s t, endB s t) ∧ B500 (leg ss os ts i).1 ∧ B500 (leg ss os ts i).2 := by
  have e : leg ss os ts i = (endA s t, endB s t) := by
    unfold leg
    simp [List.getD_eq_getElem?_getD, hz, ht, hs]
  rw [e]
  exact ⟨rfl, end_bd hk⟩
--## d
theorem allK_at {ss : List S5} {j : Nat} {s : S5} (hs : ss[j]? = some s) (h : allK ss = true) : okK s = true := by
  unfold allK at h
  rw [List.all_eq_true] at h
  exact h s (List.mem_of_getElem? hs)
--## d
abbrev mkM (m : M2) : Value := mk m.1 m.2
--## d
set_option maxHeartbeats 4000000 in
theorem l06EndsS (q : Addr) (a b c d e : Int) (t : Bool) (w : World) (h0 : w.cell? q = some (.int .i16 a)) (h1 : w.cell? ⟨q.block, q.off + 1, none⟩ = some (.int .i16 b)) (h2 : w.cell? ⟨q.block, q.off + 2, none⟩ = some (.int .i16 c)) (h3 : w.cell? ⟨q.block, q.off + 3, none⟩ = some (.int .i16 d)) (hp : q.block < w.heap.size) : Calls Try.prog 138 #[.pointer (some q), .bool t] w (Gives (fun v => v = .tuple #[mkM (endA (a, b, c, d, e) t), mkM (endB (a, b, c, d, e) t)]) w) := by
  have hp1 : q.block < w.heap.size + 1 := by omega
  have hp2 : q.block ≠ w.heap.size := by omega
  have hp3 : q.block ≠ w.heap.size + 1 := by omega
  cases t
  all_goals
    go_enter Try.func138, Try.ntmps138
    go_wp2_with fail
    go_region
    all_goals go_wp2_with fail
    all_goals
      simp [bodyPost, results, Try.results138, go_sem, *]
      exact ⟨_, rfl, rfl, (by ((try simp only [Hid] at *); repeat' (first | (with_reducible exact Below.refl _ _) | (with_reducible assumption) | (with_reducible refine below_drewN ?_ _) | (with_reducible refine Below.drew ?_) | (with_reducible refine below_alloc ?_) | (with_reducible refine below_set ?_ ?_) | (refine below_step (by with_reducible assumption) ?_) | (simp; done) | (simp; omega) | omega)))⟩
--## d
set_option maxHeartbeats 8000000 in
theorem l06WayS (v x y : Value) (ss : List S5) (os : List Int) (ts : List Bool) (p : M2) (w : World) (hP : Rls 5 w v (rK ss)) (hO : Rls 1 w x (rJ os)) (hT : Rls 1 w y (rB ts)) (hn : ss.length ≤ 60) (hk : allK ss = true) (hp : B500 p) (hlo : os.length = ss.length) (hlt : ts.length = ss.length) (hg : goodO ss.length os = true) :
    Calls Try.prog 103 #[v, x, y, mkM p] w (Gives (fun r => r = .int .i64 (wayF p (legs ss os ts os.length)).2) w) := by
  have A : Aside (Rls 5 w v (rK ss) ∧ Rls 1 w x (rJ os) ∧ Rls 1 w y (rB ts) ∧ ss.length ≤ 60 ∧ allK ss = true ∧ B500 p ∧ os.length = ss.length ∧ ts.length = ss.length ∧ goodO ss.length os = true) := ⟨hP, hO, hT, hn, hk, hp, hlo, hlt, hg⟩
  have hno : os.length ≤ 60 := by omega
  obtain ⟨a, c, rfl, _⟩ := hP
  obtain ⟨a2, c2, rfl, _⟩ := hO
  obtain ⟨a3, c3, rfl, _⟩ := hT
  rw [rK_len, rJ_len, rB_len] at *
  have M0 : Aside (Mem w ((w.alloc (.cells #[.int .i16 p.1, .int .i16 p.2] 63)).alloc (.cells #[.int .i16 p.1, .int .i16 p.2] 63)) [] [(w.heap.size + 1, [.int .i16 p.1, .int .i16 p.2])]) := by
    have h := Mem.alloc (Mem.call (Mem.start w) (below_alloc (o := .cells #[.int .i16 p.1, .int .i16 p.2] 63) (Below.refl _ _))) #[.int .i16 p.1, .int .i16 p.2] 63
    rw [show (w.alloc (.cells #[.int .i16 p.1, .int .i16 p.2] 63)).heap.size = w.heap.size + 1 by simp] at h
    exact h
  have h28 : Aside ((Try.prog.info? 63).map (·.size) = some 2) := (by kernel_rfl : (Try.prog.info? 63).map (·.size) = some 2)
  clear hlo hlt hg hk hp
  go_enter Try.func103, Try.ntmps103
  go_wp2_with fail
  go_loopg [9, 11] os.length (fun k s9 s11 wr => ∃ (i : Nat), s11 = .int .i64 i ∧ i + k = os.length ∧ s9 = .int .i64 (wayF p (legs ss os ts i)).2 ∧ (0 ≤ (wayF p (legs ss os ts i)).2 ∧ (wayF p (legs ss os ts i)).2 ≤ 1000 * i) ∧ B500 (wayF p (legs ss os ts i)).1 ∧ Mem w wr [] [(w.heap.size + 1, [.int .i16 (wayF p (legs ss os ts i)).1.1, .int .i16 (wayF p (legs ss os ts i)).1.2])])
  · exact ⟨0, rfl, by omega, rfl, by simp [wayF, legs], A.out.2.2.2.2.2.1, M0.out⟩
  · obtain ⟨i, rfl, hik, rfl, hsum, hat, HM⟩ := hrel
    have hws := way_snoc p ss os ts i
    generalize hwf : wayF p (legs ss os ts i) = wf at *
    obtain ⟨at_, sm⟩ := wf
    have B : Aside (i + gk = os.length ∧ (0 ≤ sm ∧ sm ≤ 1000 * i) ∧ B500 at_ ∧ Mem w wr [] [(w.heap.size + 1, [.int .i16 at_.1, .int .i16 at_.2])] ∧ wayF p (legs ss os ts (i + 1)) = ((leg ss os ts i).2, sm + distF at_.1 at_.2 (leg ss os ts i).1.1 (leg ss os ts i).1.2)) := ⟨hik, hsum, hat, HM, hws⟩
    by_cases hi : i < os.length
    · obtain ⟨z, hz⟩ : ∃ z, os[i]? = some z := ⟨os[i], List.getElem?_eq_getElem hi⟩
      have hzb := goodO_at hz A.out.2.2.2.2.2.2.2.2
      obtain ⟨j, rfl⟩ : ∃ j : Nat, z = (j : Int) := ⟨z.toNat, by omega⟩
      obtain ⟨s, hs⟩ : ∃ s, ss[j]? = some s := ⟨ss[j]'(by omega), List.getElem?_eq_getElem (by omega)⟩
      obtain ⟨t, ht⟩ : ∃ t, ts[i]? = some t := ⟨ts[i]'(by have := A.out.2.2.2.2.2.2.2.1; have := A.out.2.2.2.2.2.2.1; omega), List.getElem?_eq_getElem _⟩
      obtain ⟨hleg, hbA, hbB⟩ := leg_bd (t := t) hz (by simpa using hs) ht (allK_at hs A.out.2.2.2.2.1)
      obtain ⟨b, c', e0, hbl, hcells⟩ := (A.out.1.below HM.below).at (rK_get hs)
      obtain ⟨b2, c4, e1, hbl2, hcells2⟩ := (A.out.2.1.below HM.below).at (rJ_get hz)
      obtain ⟨b3, c5, e2, hbl3, hcells3⟩ := (A.out.2.2.1.below HM.below).at (rB_get ht)
      rw [rK_len] at e0
      rw [rJ_len] at e1
      rw [rB_len] at e2
      cases e0
      cases e1
      cases e2
      rw [Nat.mul_one] at hbl2 hbl3
      have hi' : (i : Int) < (os.length : Int) := by omega
      have hi2 : (i : Int) < (ts.length : Int) := by have := A.out.2.2.2.2.2.2.2.1; have := A.out.2.2.2.2.2.2.1; omega
      have hi0 : (0 : Int) ≤ (i : Int) := Int.natCast_nonneg _
      have hj' : (j : Int) < (ss.length : Int) := hzb.2
      have hj0 : (0 : Int) ≤ (j : Int) := Int.natCast_nonneg _
      have hK : ∀ W, Bel wr W → W.cell? (b2.add i) = some (.int .i64 (j : Int)) ∧ W.cell? (b3.add i) = some (.bool t) ∧ Bel wr W := fun W hW =>
        ⟨by rw [hW.out.cell hbl2]; have := hcells2 0 _ rfl; rw [Nat.mul_one] at this; exact this, by rw [hW.out.cell hbl3]; have := hcells3 0 _ rfl; rw [Nat.mul_one] at this; exact this, hW⟩
      have HE : Aside (∀ W, Bel wr W → Calls Try.prog 138 #[.pointer (some (b.add (j * 5))), .bool t] W (Gives (fun v => v = .tuple #[mkM (endA s t), mkM (endB s t)]) W)) := fun W hW =>
        l06EndsS (b.add (j * 5)) s.1 s.2.1 s.2.2.1 s.2.2.2.1 s.2.2.2.2 t W (cells_later hW.out hbl hcells 0 _ rfl) (cells_later hW.out hbl hcells 1 _ rfl) (cells_later hW.out hbl hcells 2 _ rfl) (cells_later hW.out hbl hcells 3 _ rfl) (Nat.lt_of_lt_of_le hbl hW.out.size)
      rw [hleg] at hbA hbB
      obtain ⟨eA, hA⟩ : ∃ e, endA s t = e := ⟨_, rfl⟩
      obtain ⟨eB, hB⟩ : ∃ e, endB s t = e := ⟨_, rfl⟩
      rw [hA, hB] at hleg HE
      simp only [hA, hB] at hbA hbB
      have hd := dist_bd1 hat hbA
      have HD : Aside (∀ W, Calls Try.prog 139 #[mkM at_, mkM eA] W (Gives (fun v => v = .int .i64 (distF at_.1 at_.2 eA.1 eA.2)) W)) := l06DistanceA at_.1 at_.2 eA.1 eA.2 hat.i16.1 hat.i16.2 hbA.i16.1 hbA.i16.2
      have C : Aside (leg ss os ts i = (eA, eB) ∧ B500 eB ∧ (0 ≤ distF at_.1 at_.2 eA.1 eA.2 ∧ distF at_.1 at_.2 eA.1 eA.2 ≤ 1000)) := ⟨hleg, hbB, hd⟩
      obtain ⟨dd, hdd⟩ : ∃ d, distF at_.1 at_.2 eA.1 eA.2 = d := ⟨_, rfl⟩
      have HDD : Aside (distF at_.1 at_.2 eA.1 eA.2 = dd) := hdd
      rw [hdd] at HD hd C
      clear hleg hbA hbB hA hB hcells hcells2 hcells3 hbl hbl2 hbl3 hz hs ht hzb hik hsum hat HM hws hd hdd hwf
      go_wp2_with fail
      go_cut [12, 13] (fun s12 s13 wx => ∃ ga gb, s12 = .pointer (some ⟨ga, 0, none⟩) ∧ s13 = .pointer (some ⟨gb, 0, none⟩) ∧ wx.cell? ⟨ga, 0, none⟩ = some (.int .i16 eA.1) ∧ wx.cell? ⟨ga, 1, none⟩ = some (.int .i16 eA.2) ∧ wx.cell? ⟨gb, 0, none⟩ = some (.int .i16 eB.1) ∧ wx.cell? ⟨gb, 1, none⟩ = some (.int .i16 eB.2) ∧ ga < wx.heap.size ∧ gb < wx.heap.size ∧ Bel wr wx)
      case first =>
        go_region_held3 (fun W => W.cell? (b2.add i) = some (.int .i64 (j : Int)) ∧ W.cell? (b3.add i) = some (.bool t) ∧ Bel wr W) (first | (with_reducible assumption) | (refine hK _ ?_; (repeat' (first | (with_reducible exact Bel.refl _) | (with_reducible assumption) | (with_reducible exact And.right (And.right (by assumption))) | (with_reducible refine Bel.drew ?_) | (with_reducible refine Bel.alloc ?_) | (with_reducible refine Bel.set ?_ ?_) | (simp; done) | (simp; omega) | omega)); done) | go_keep) (first | (go_at_call 138; refine (HE.out _ (And.right (And.right (by assumption)))).mono ?_; rintro e w' ⟨_, rfl, rfl, hb⟩; have HBl := Bel.step (And.right (And.right (by assumption))) hb; obtain ⟨hcb, hfb⟩ := bcell hb; (try simp at hcb hfb); have hs := hb.size; (try simp at hs); (try (have hz1 : wr.heap.size < w'.heap.size := (by omega))); (try (have hz2 : wr.heap.size + 1 < w'.heap.size := (by omega))); (try (have hz3 := Nat.lt_of_succ_le hs)); (try (have k00 : w'.cell? ⟨wr.heap.size, 0, none⟩ = some (.int .i16 0) := by (rw [hcb _ _ (by omega)]; simp [go_sem]))); (try (have k01 : w'.cell? ⟨wr.heap.size, 1, none⟩ = some (.int .i16 0) := by (rw [hcb _ _ (by omega)]; simp [go_sem]))); (try (have k10 : w'.cell? ⟨wr.heap.size + 1, 0, none⟩ = some (.int .i16 0) := by (rw [hcb _ _ (by omega)]; simp [go_sem]))); (try (have k11 : w'.cell? ⟨wr.heap.size + 1, 1, none⟩ = some (.int .i16 0) := by (rw [hcb _ _ (by omega)]; simp [go_sem])))))
        all_goals
          go_wp2_with fail
          go_meet
          refine ⟨_, _, rfl, rfl, ?_, ?_, ?_, ?_, ?_, ?_, ?_⟩
          all_goals (first | (simp [go_sem, *]; done) | (rw [World.cell?_setCell_far, World.cell?_setCell_far] <;> first | (simp [go_sem, *]; done) | (simp; done) | (simp; omega)) | (simp [go_sem, *]; omega) | ((repeat' (first | (with_reducible exact Bel.refl _) | (with_reducible assumption) | (with_reducible exact And.right (And.right (by assumption))) | (with_reducible refine Bel.drew ?_) | (with_reducible refine Bel.alloc ?_) | (with_reducible refine Bel.set ?_ ?_) | (simp; done) | (simp; omega) | omega)); done))
      case rest =>
        obtain ⟨ga, gb, rfl, rfl, c0, c1, c2, c3, la, lb, HBx⟩ := hcut
        generalize wc = wx at *
        obtain ⟨hik, hsum, hat, HM, hws⟩ := B.out
        have HMx : Aside (Mem w wx [] [(w.heap.size + 1, [.int .i16 at_.1, .int .i16 at_.2])]) := HM.call HBx.out
        obtain ⟨q0, _⟩ := Mem.cellAt HMx.out 0 (.int .i16 at_.1) rfl
        obtain ⟨q1, _⟩ := Mem.cellAt HMx.out 1 (.int .i16 at_.2) rfl
        have hdd := C.out.2.2
        have hs1 : sm ≤ 60000 := by omega
        have hs0 := hsum.1
        have hd0 := hdd.1
        have hd1 := hdd.2
        clear hik hat HM hws hsum hdd HBx hK
        go_wp2_with (first
          | (go_at_call 139; refine (HD.out _).mono ?_; rintro e w2 ⟨_, rfl, rfl, hb⟩; have HM2 : Aside (Mem w w2 [] [(w.heap.size + 1, [.int .i16 at_.1, .int .i16 at_.2])]) := HMx.out.call hb; obtain ⟨hcb, hfb⟩ := bcell hb; (try simp at hcb hfb); have hs := hb.size; clear hb)
          | (refine wpList_store (b := w.heap.size + 1) (off := 0) (cs := [.int .i16 at_.1, .int .i16 at_.2]) (vs := [.int .i16 eB.1, .int .i16 eB.2]) HM2.out 0 rfl rfl rfl rfl rfl rfl h28.out rfl rfl ?_; intro w3 hM3; have hM4 : Aside (Mem w w3 [] [(w.heap.size + 1, [.int .i16 eB.1, .int .i16 eB.2])]) := hM3; clear hM3))
        obtain ⟨hik, hsum, hat, _, hws⟩ := B.out
        rw [C.out.1] at hws
        go_roundg (gk - 1)
        · refine ⟨i + 1, ?_, by omega, ?_, ?_, ?_, ?_⟩
          · first
              | (congr 1; done)
              | (congr 1; unfold wrap64; omega)
          · rw [hws, HDD.out]
          · rw [hws, HDD.out]; simp only; omega
          · rw [hws]; exact C.out.2.1
          · rw [hws]; exact hM4.out
        · omega
    · have hi' : ¬ ((i : Int) < (os.length : Int)) := by omega
      have hie : i = os.length := by omega
      go_wp2_with fail
      simp [bodyPost, results, Try.results103, go_sem]
      exact ⟨_, rfl, by rw [← hie, hwf], HM.below⟩
--## d
end Go.Proofs.Ytpaangcbcknhlaa
