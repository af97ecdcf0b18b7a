/- Contracts: lists of points and of loops are copied, measured, compared. -/
import Derived.Test.YtpainjecdolgiaaLstG
import Derived.Test.YtpainjecdolgiaaSxS
import Derived.Test.YtpainjecdolgiaaLawA
namespace Go.Proofs.Ytpainjecdolgiaa
--## d
open Go.ChangeShapes Go.WideShapes Go.ChangeAt Go.RowKit Go.Flo Go.Mem
set_option linter.unusedSimpArgs false
set_option linter.unusedVariables false
set_option maxRecDepth 20000
--## d
abbrev V3n := Nat × Nat × Nat
--## d
/-- whole numbers as rows of one cell; triples as rows of three -/
def rI (zs : List Int) : List (List Value) := zs.map fun z => [.int .i16 z]
--## d
def rT (ts : List V3n) : List (List Value) := ts.map fun t => [.float .f32 t.1, .float .f32 t.2.1, .float .f32 t.2.2]
--## d
theorem rI_len {zs : List Int} : (rI zs).length = zs.length := by simp [rI]
--## d
theorem rT_len {ts : List V3n} : (rT ts).length = ts.length := by simp [rT]
--## d
theorem rI_row {zs : List Int} : ∀ r ∈ rI zs, r.length = 1 := by simp [rI]
--## d
theorem rT_row {ts : List V3n} : ∀ r ∈ rT ts, r.length = 3 := by
  intro r hr
  simp only [rT, List.mem_map] at hr
  obtain ⟨t, _, rfl⟩ := hr
  rfl
--## d
theorem rI_get {zs : List Int} {i : Nat} {z : Int} (h : zs[i]? = some z) : (rI zs)[i]? = some [.int .i16 z] := by simp [rI, h]
--## d
theorem rT_get {ts : List V3n} {i : Nat} {t : V3n} (h : ts[i]? = some t) : (rT ts)[i]? = some [.float .f32 t.1, .float .f32 t.2.1, .float .f32 t.2.2] := by simp [rT, h]
--## d
theorem add_zero (b : Addr) : b.add 0 = b := rfl
--## d
theorem makeI (n : Nat) (hn : n ≤ 1048576) (w : World) : (Instr.makeSlice 25 (.int .i64 n) (.int .i64 n)).run Try.prog w = .ok (.slice (some ⟨w.heap.size, 0, none⟩) n n) (w.alloc (.cells (madeCells #[.int .i16 0] n) 57)) := by
  have h := makeR (P := Try.prog) (s := 25) (e := 57) (z := .int .i16 0) (m := 1) (bytes := 2) (by kernel_rfl) (by kernel_rfl) (by kernel_rfl) (by kernel_rfl) (by kernel_rfl) (by omega) n hn w
  rw [Nat.mul_one] at h; exact h
--## d
theorem makeT (n : Nat) (hn : n ≤ 1048576) (w : World) : (Instr.makeSlice 67 (.int .i64 n) (.int .i64 n)).run Try.prog w = .ok (.slice (some ⟨w.heap.size, 0, none⟩) n n) (w.alloc (.cells (madeCells #[.float .f32 0, .float .f32 0, .float .f32 0] (n * 3)) 30)) :=
  makeR (P := Try.prog) (s := 67) (e := 30) (z := .agg #[.float .f32 0, .float .f32 0, .float .f32 0]) (m := 3) (bytes := 12) (by kernel_rfl) (by kernel_rfl) (by kernel_rfl) (by kernel_rfl) (by kernel_rfl) (by omega) n hn w
--## d
theorem makeF (n : Nat) (hn : n ≤ 1048576) (w : World) : (Instr.makeSlice 68 (.int .i64 n) (.int .i64 n)).run Try.prog w = .ok (.slice (some ⟨w.heap.size, 0, none⟩) n n) (w.alloc (.cells (madeCells #[.slice none 0 0] n) 25)) := by
  have h := makeR (P := Try.prog) (s := 68) (e := 25) (z := .slice none 0 0) (m := 1) (bytes := 24) (by kernel_rfl) (by kernel_rfl) (by kernel_rfl) (by kernel_rfl) (by kernel_rfl) (by omega) n hn w
  rw [Nat.mul_one] at h; exact h
--## d
set_option maxRecDepth 20000 in
set_option maxHeartbeats 4000000 in
theorem toI (v : Value) (zs : List Int) (w : World) (hP : Rls 1 w v (rI zs)) (hn : zs.length ≤ 1048576) :
    Calls Try.prog 18 #[v] w (fun e w' => e = .returned (.slice (some ⟨w.heap.size, 0, none⟩) zs.length zs.length) ∧ ∃ cs, Mem w w' [] [(w.heap.size, cs)] ∧ cs = (rI zs).flatten) := by
  have hP' := hP
  obtain ⟨a, c, rfl, _⟩ := hP
  obtain ⟨g, hg⟩ : ∃ g, g = w.heap.size := ⟨_, rfl⟩
  have hmk := makeI zs.length hn w
  rw [← hg] at hmk ⊢
  rw [rI_len] at *
  have G : Aside (g = w.heap.size ∧ zs.length ≤ 1048576) := ⟨hg, hn⟩
  have hM0 := (Mem.start w).alloc (madeCells #[.int .i16 0] zs.length) 57
  rw [← hg] at hM0
  have M0 : Aside (Mem w (w.alloc (.cells (madeCells #[.int .i16 0] zs.length) 57)) [] [(g, (madeCells #[.int .i16 0] zs.length).toList)]) := hM0
  clear hM0 hg hn
  have h47 : Aside ((Try.prog.info? 57).map (·.size) = some 1) := (by kernel_rfl : (Try.prog.info? 57).map (·.size) = some 1)
  go_enter Try.func18, Try.ntmps18
  go_wp2_with fail
  go_loopg [4] zs.length (fun k s4 wr => ∃ (i : Nat) (cs : List Value), s4 = .int .i64 i ∧ i + k = zs.length ∧ cs.length = zs.length ∧ Mem w wr [] [(g, cs)] ∧ cs.take i = ((rI zs).take i).flatten)
  · exact ⟨0, _, rfl, by omega, by simp [size_madeCells], M0.out, rfl⟩
  · obtain ⟨i, cs, rfl, hik, hl, HM, htk⟩ := hrel
    have B : Aside (i + gk = zs.length ∧ cs.length = zs.length ∧ cs.take i = ((rI zs).take i).flatten) := ⟨hik, hl, htk⟩
    have hMA : Aside (Mem w wr [] [(g, cs)]) := HM
    by_cases hi : i < zs.length
    · obtain ⟨z, hz⟩ : ∃ z, zs[i]? = some z := ⟨zs[i], List.getElem?_eq_getElem hi⟩
      obtain ⟨b, c', e0, hbl, hcells⟩ := (hP'.below HM.below).at (rI_get hz)
      rw [rI_len] at e0
      cases e0
      have hi' : (i : Int) < (zs.length : Int) := by omega
      have hc0 : wr.cell? (b.add i) = some (.int .i16 z) := by have := hcells 0 _ rfl; rw [Nat.mul_one] at this; exact this
      have P0 : Aside (zs[i]? = some z) := hz
      clear hcells hbl hP' hz hik hl htk HM hmk
      go_wp2_with (first
        | (refine wpList_idxR rfl rfl (by kernel_rfl) (by kernel_rfl) rfl rfl (Int.natCast_nonneg _) hi' ?_; simp only [Int.toNat_natCast, Nat.mul_one, Addr.add_mid, Nat.zero_add])
        | (refine wpList_store (b := g) (off := i) (cs := cs) (vs := [.int .i16 z]) hMA.out 0 rfl rfl rfl rfl rfl rfl h47.out rfl (Nat.ble_eq_true_of_le (by have := B.out.2.1; simp only [List.length_cons, List.length_nil]; omega)) ?_; intro w3 hM3; have hM4 : Aside (Mem w w3 [] [(g, splice cs i [.int .i16 z])]) := hM3; clear hM3))
      obtain ⟨hik, hl, htk⟩ := B.out
      go_roundg (gk - 1)
      · refine ⟨i + 1, _, ?_, by omega, ?_, hM4.out, ?_⟩
        · first
            | (congr 1; done)
            | (congr 1; have := G.out.2; unfold wrap64; omega)
        · rw [splice_length]; exact hl
        · have e := splice_takeR cs [.int .i16 z] i (by simp only [List.length_cons, List.length_nil]; omega)
          simp only [List.length_cons, List.length_nil, Nat.zero_add] at e
          rw [flatten_take (rI_get P0.out), ← htk]; exact e
      · omega
    · have hi' : ¬ ((i : Int) < (zs.length : Int)) := by omega
      obtain ⟨hik, hl, htk⟩ := B.out
      have hie : i = zs.length := by omega
      clear hmk M0
      go_wp2_with fail
      simp [bodyPost, results, Try.results18, go_sem]
      have hcs : cs = (rI zs).flatten := by
        rw [hie, List.take_of_length_le (by omega), List.take_of_length_le (by rw [rI_len]; omega)] at htk
        exact htk
      rw [← hcs]; exact hMA.out
--## d
set_option maxRecDepth 20000 in
set_option maxHeartbeats 4000000 in
theorem toT (v : Value) (ts : List V3n) (w : World) (hP : Rls 3 w v (rT ts)) (hn : ts.length ≤ 1048576) :
    Calls Try.prog 50 #[v] w (fun e w' => e = .returned (.slice (some ⟨w.heap.size, 0, none⟩) ts.length ts.length) ∧ ∃ cs, Mem w w' [] [(w.heap.size, cs)] ∧ cs = (rT ts).flatten) := by
  have hP' := hP
  obtain ⟨a, c, rfl, _⟩ := hP
  obtain ⟨g, hg⟩ : ∃ g, g = w.heap.size := ⟨_, rfl⟩
  have hmk := makeT ts.length hn w
  rw [← hg] at hmk ⊢
  rw [rT_len] at *
  have G : Aside (g = w.heap.size ∧ ts.length ≤ 1048576) := ⟨hg, hn⟩
  have hM0 := (Mem.start w).alloc (madeCells #[.float .f32 0, .float .f32 0, .float .f32 0] (ts.length * 3)) 30
  rw [← hg] at hM0
  have M0 : Aside (Mem w (w.alloc (.cells (madeCells #[.float .f32 0, .float .f32 0, .float .f32 0] (ts.length * 3)) 30)) [] [(g, (madeCells #[.float .f32 0, .float .f32 0, .float .f32 0] (ts.length * 3)).toList)]) := hM0
  clear hM0 hg hn
  have h47 : Aside ((Try.prog.info? 30).map (·.size) = some 3) := (by kernel_rfl : (Try.prog.info? 30).map (·.size) = some 3)
  go_enter Try.func50, Try.ntmps50
  go_wp2_with fail
  go_loopg [4] ts.length (fun k s4 wr => ∃ (i : Nat) (cs : List Value), s4 = .int .i64 i ∧ i + k = ts.length ∧ cs.length = ts.length * 3 ∧ Mem w wr [] [(g, cs)] ∧ cs.take (i * 3) = ((rT ts).take i).flatten)
  · exact ⟨0, _, rfl, by omega, by simp [size_madeCells], M0.out, rfl⟩
  · obtain ⟨i, cs, rfl, hik, hl, HM, htk⟩ := hrel
    have B : Aside (i + gk = ts.length ∧ cs.length = ts.length * 3 ∧ cs.take (i * 3) = ((rT ts).take i).flatten) := ⟨hik, hl, htk⟩
    have hMA : Aside (Mem w wr [] [(g, cs)]) := HM
    by_cases hi : i < ts.length
    · obtain ⟨z, hz⟩ : ∃ z, ts[i]? = some z := ⟨ts[i], List.getElem?_eq_getElem hi⟩
      obtain ⟨b, c', e0, hbl, hcells⟩ := (hP'.below HM.below).at (rT_get hz)
      rw [rT_len] at e0
      cases e0
      have hi' : (i : Int) < (ts.length : Int) := by omega
      have C : Aside ((b.add (i * 3)).block < wr.heap.size ∧ ∀ k x, [Value.float .f32 z.1, .float .f32 z.2.1, .float .f32 z.2.2][k]? = some x → wr.cell? ((b.add (i * 3)).add k) = some x) := ⟨hbl, hcells⟩
      have P0 : Aside (ts[i]? = some z) := hz
      clear hcells hbl hP' hz hik hl htk HM hmk
      go_wp2_with (first
        | (refine wpList_idxR rfl rfl (by kernel_rfl) (by kernel_rfl) rfl rfl (Int.natCast_nonneg _) hi' ?_; simp only [Int.toNat_natCast, Addr.add_mid, Nat.zero_add])
        | (refine wpList_rowR rfl rfl (n := 3) (by kernel_rfl) rfl rfl C.out.2 ?_)
        | (go_at_call 17; refine (toPoint_any _ _ _ _).mono ?_; rintro e w' ⟨rfl, hb⟩; have HM2 := hMA.out.call hb; have hM2 : Aside (Mem w w' [] [(g, cs)]) := HM2; clear HM2 hb)
        | (refine wpList_store (b := g) (off := i * 3) (cs := cs) (vs := [.float .f32 z.1, .float .f32 z.2.1, .float .f32 z.2.2]) hM2.out 0 rfl rfl rfl rfl rfl rfl h47.out rfl (Nat.ble_eq_true_of_le (by have := B.out.2.1; simp only [List.length_cons, List.length_nil]; omega)) ?_; intro w3 hM3; have hM4 : Aside (Mem w w3 [] [(g, splice cs (i * 3) [.float .f32 z.1, .float .f32 z.2.1, .float .f32 z.2.2])]) := hM3; clear hM3))
      obtain ⟨hik, hl, htk⟩ := B.out
      go_roundg (gk - 1)
      · refine ⟨i + 1, _, ?_, by omega, ?_, hM4.out, ?_⟩
        · first
            | (congr 1; done)
            | (congr 1; have := G.out.2; unfold wrap64; omega)
        · rw [splice_length]; exact hl
        · have e := splice_takeR cs [.float .f32 z.1, .float .f32 z.2.1, .float .f32 z.2.2] (i * 3) (by simp only [List.length_cons, List.length_nil]; omega)
          simp only [List.length_cons, List.length_nil] at e
          rw [flatten_take (rT_get P0.out), ← htk, show (i + 1) * 3 = i * 3 + (0 + 1 + 1 + 1) by omega]; exact e
      · omega
    · have hi' : ¬ ((i : Int) < (ts.length : Int)) := by omega
      obtain ⟨hik, hl, htk⟩ := B.out
      have hie : i = ts.length := by omega
      clear hmk M0
      go_wp2_with fail
      simp [bodyPost, results, Try.results50, go_sem]
      have hcs : cs = (rT ts).flatten := by
        rw [hie, List.take_of_length_le (by omega), List.take_of_length_le (by rw [rT_len]; omega)] at htk
        exact htk
      rw [← hcs]; exact hMA.out
--## d
theorem Mem.join {w wr w' : World} {r l : Blocks} {cs : List Value} (h : Mem w wr r l) (hs : Mem wr w' [] [(wr.heap.size, cs)]) : Mem w w' r ((wr.heap.size, cs) :: l) := by
  have hc := h.call hs.below
  refine ⟨hc.below, hc.old, fun x hx => ?_, ?_⟩
  · rcases List.mem_cons.1 hx with rfl | hx
    · obtain ⟨h1, h2, h3, h4⟩ := hs.new (wr.heap.size, cs) (by simp)
      exact ⟨Nat.le_trans h.below.size h1, h2, h3, h4⟩
    · exact hc.new x hx
  · rw [List.map_cons, List.nodup_cons]
    refine ⟨fun hm => ?_, hc.apart⟩
    obtain ⟨x, hx, he⟩ := List.mem_map.1 hm
    have := (h.new x hx).2.1
    simp only at he
    omega
--## d
theorem Mem.swap {w W : World} {r l : Blocks} {x y : Nat × List Value} (h : Mem w W r (x :: y :: l)) : Mem w W r (y :: x :: l) := by
  refine ⟨h.below, h.old, fun z hz => h.new z (by simp at hz ⊢; rcases hz with h | h | h <;> simp [h]), ?_⟩
  have := h.apart
  simp only [List.map_cons, List.nodup_cons, List.mem_cons, not_or] at this ⊢
  exact ⟨⟨fun e => this.1.1 e.symm, this.2.1⟩, this.1.2, this.2.2⟩
--## d
/-- a slice of slices of whole numbers -/
def Fls (w : World) (v : Value) (fs : List (List Int)) : Prop := ∃ vs : List Value, vs.length = fs.length ∧ Rls 1 w v (vs.map ([·])) ∧ ∀ (j : Nat) u z, vs[j]? = some u → fs[j]? = some z → Rls 1 w u (rI z)
--## d
theorem Fls.below {w w' : World} {v : Value} {fs : List (List Int)} (h : Fls w v fs) (hb : Below w.heap.size w w') : Fls w' v fs := by
  obtain ⟨vs, h1, h2, h3⟩ := h
  exact ⟨vs, h1, h2.below hb, fun j u z hu hz => (h3 j u z hu hz).below hb⟩
--## d
theorem Fls.slice {w : World} {v : Value} {fs : List (List Int)} (h : Fls w v fs) : ∃ a c, v = .slice a fs.length c := by
  obtain ⟨vs, h1, ⟨a, c, h2, _⟩, _⟩ := h
  exact ⟨a, c, by rw [h2, List.length_map, h1]⟩
--## d
theorem Fls.at {w : World} {v : Value} {fs : List (List Int)} (h : Fls w v fs) {i : Nat} {z : List Int} (hz : fs[i]? = some z) : ∃ b c u, v = .slice (some b) fs.length c ∧ (b.add i).block < w.heap.size ∧ w.cell? (b.add i) = some u ∧ Rls 1 w u (rI z) := by
  obtain ⟨vs, h1, h2, h3⟩ := h
  have hi := (List.getElem?_eq_some_iff.1 hz).1
  have hv : vs[i]? = some vs[i] := List.getElem?_eq_getElem (by omega)
  obtain ⟨b, c, e, hb, hc⟩ := h2.at (i := i) (r := [vs[i]]) (by simp [hv])
  rw [Nat.mul_one] at hb hc
  exact ⟨b, c, vs[i], by rw [e, List.length_map, h1], hb, hc 0 _ rfl, h3 i _ z hv hz⟩
--## d
/-- a slice that lies in a block from B on -/
def Hi (B : Nat) (v : Value) : Prop := ∀ b l c, v = .slice (some b) l c → B ≤ b.block
--## d
def FlsH (B : Nat) (w : World) (v : Value) (fs : List (List Int)) : Prop := ∃ vs : List Value, vs.length = fs.length ∧ Rls 1 w v (vs.map ([·])) ∧ Hi B v ∧ ∀ (j : Nat) u z, vs[j]? = some u → fs[j]? = some z → Rls 1 w u (rI z) ∧ Hi B u
--## d
theorem FlsH.fls {B : Nat} {w : World} {v : Value} {fs : List (List Int)} (h : FlsH B w v fs) : Fls w v fs := by
  obtain ⟨vs, h1, h2, _, h3⟩ := h
  exact ⟨vs, h1, h2, fun j u z hu hz => (h3 j u z hu hz).1⟩
--## d
theorem Rls.set {n B : Nat} {w : World} {v x : Value} {rs : List (List Value)} {p : Addr} (h : Rls n w v rs) (hi : Hi B v) (hp : p.block < B) : Rls n (w.setCell p x) v rs := by
  obtain ⟨a, c, rfl, h2⟩ := h
  refine ⟨a, c, rfl, fun j r hr => ?_⟩
  obtain ⟨b, rfl, e2, e3⟩ := h2 j r hr
  have hB := hi b _ _ rfl
  refine ⟨b, rfl, by simpa using e2, fun k y hy => ?_⟩
  rw [World.cell?_setCell_other _ p ((b.add (j * n)).add k) x (by
    intro e
    have := congrArg Addr.block e
    rw [add_block', add_block'] at this
    omega)]
  exact e3 k y hy
--## d
theorem FlsH.set {B : Nat} {w : World} {v x : Value} {fs : List (List Int)} {p : Addr} (h : FlsH B w v fs) (hp : p.block < B) : FlsH B (w.setCell p x) v fs := by
  obtain ⟨vs, h1, h2, h3, h4⟩ := h
  exact ⟨vs, h1, h2.set h3 hp, h3, fun j u z hu hz => ⟨(h4 j u z hu hz).1.set (h4 j u z hu hz).2 hp, (h4 j u z hu hz).2⟩⟩
--## d
set_option maxRecDepth 20000 in
set_option maxHeartbeats 4000000 in
theorem toF (v : Value) (fs : List (List Int)) (w : World) (hP : Fls w v fs) (hn : fs.length ≤ 1048576) (hN : ∀ z ∈ fs, z.length ≤ 1048576) :
    Calls Try.prog 51 #[v] w (fun e w' => ∃ u, e = .returned u ∧ FlsH w.heap.size w' u fs ∧ Below w.heap.size w w') := by
  have hP' := hP
  obtain ⟨a, c, rfl⟩ := hP.slice
  clear hP
  obtain ⟨g, hg⟩ : ∃ g, g = w.heap.size := ⟨_, rfl⟩
  have hmk := makeF fs.length hn w
  rw [← hg] at hmk
  have G : Aside (g = w.heap.size ∧ fs.length ≤ 1048576 ∧ ∀ z ∈ fs, z.length ≤ 1048576) := ⟨hg, hn, hN⟩
  have hM0 := (Mem.start w).alloc (madeCells #[.slice none 0 0] fs.length) 25
  rw [← hg] at hM0
  have M0 : Aside (Mem w (w.alloc (.cells (madeCells #[.slice none 0 0] fs.length) 25)) [] [(g, (madeCells #[.slice none 0 0] fs.length).toList)]) := hM0
  clear hM0 hg hn hN
  have h45 : Aside ((Try.prog.info? 25).map (·.size) = some 1) := (by kernel_rfl : (Try.prog.info? 25).map (·.size) = some 1)
  go_enter Try.func51, Try.ntmps51
  go_wp2_with fail
  go_loopg [4] fs.length (fun k s4 wr => ∃ (i : Nat) (cs : List Value) (L : Blocks), s4 = .int .i64 i ∧ i + k = fs.length ∧ cs.length = fs.length ∧ Mem w wr [] ((g, cs) :: L) ∧ ∀ (j : Nat) z, j < i → fs[j]? = some z → ∃ b, cs[j]? = some (.slice (some ⟨b, 0, none⟩) z.length z.length) ∧ (b, (rI z).flatten) ∈ L)
  · exact ⟨0, _, [], rfl, by omega, by simp [size_madeCells], M0.out, fun j z hj => by omega⟩
  · obtain ⟨i, cs, L, rfl, hik, hl, HM, hin⟩ := hrel
    have B : Aside (i + gk = fs.length ∧ cs.length = fs.length ∧ ∀ (j : Nat) z, j < i → fs[j]? = some z → ∃ b, cs[j]? = some (.slice (some ⟨b, 0, none⟩) z.length z.length) ∧ (b, (rI z).flatten) ∈ L) := ⟨hik, hl, hin⟩
    have hMA : Aside (Mem w wr [] ((g, cs) :: L)) := HM
    by_cases hi : i < fs.length
    · obtain ⟨z, hz⟩ : ∃ z, fs[i]? = some z := ⟨fs[i], List.getElem?_eq_getElem hi⟩
      obtain ⟨b, c', u, e0, hbl, hc0, hR⟩ := (hP'.below HM.below).at hz
      cases e0
      have hi' : (i : Int) < (fs.length : Int) := by omega
      have P0 : Aside (fs[i]? = some z ∧ z.length ≤ 1048576 ∧ Rls 1 wr u (rI z)) := ⟨hz, G.out.2.2 z (List.mem_of_getElem? hz), hR⟩
      clear hbl hP' hz hik hl hin HM hmk hR
      go_wp2_with (first
        | (refine wpList_idxR rfl rfl (by kernel_rfl) (by kernel_rfl) rfl rfl (Int.natCast_nonneg _) hi' ?_; simp only [Int.toNat_natCast, Nat.mul_one, Addr.add_mid, Nat.zero_add])
        | (go_at_call 18; refine (toI _ _ _ P0.out.2.2 P0.out.2.1).mono ?_; rintro e w' ⟨rfl, _, hMi, rfl⟩; have hM2 : Aside (Mem w w' [] ((g, cs) :: (wr.heap.size, (rI z).flatten) :: L)) := Mem.swap (Mem.join hMA.out hMi); clear hMi)
        | (refine wpList_store (b := g) (off := i) (cs := cs) (vs := [.slice (some ⟨wr.heap.size, 0, none⟩) z.length z.length]) hM2.out 0 rfl rfl rfl rfl rfl rfl h45.out rfl (Nat.ble_eq_true_of_le (by have := B.out.2.1; simp only [List.length_cons, List.length_nil]; omega)) ?_; intro w3 hM3; have hM4 : Aside (Mem w w3 [] ((g, splice cs i [.slice (some ⟨wr.heap.size, 0, none⟩) z.length z.length]) :: (wr.heap.size, (rI z).flatten) :: L)) := hM3; clear hM3))
      obtain ⟨hik, hl, hin⟩ := B.out
      go_roundg (gk - 1)
      · refine ⟨i + 1, _, _, ?_, by omega, ?_, hM4.out, ?_⟩
        · first
            | (congr 1; done)
            | (congr 1; have := G.out.2.1; unfold wrap64; omega)
        · rw [splice_length]; exact hl
        · intro j y hj hy
          rw [splice_get _ _ _ _ (by simp only [List.length_cons, List.length_nil]; omega)]
          by_cases hji : j = i
          · subst hji
            obtain rfl : z = y := Option.some.inj (P0.out.1.symm.trans hy)
            exact ⟨wr.heap.size, by rw [if_pos (by simp)]; simp, by simp⟩
          · obtain ⟨b', h1, h2⟩ := hin j y (by omega) hy
            exact ⟨b', by rw [if_neg (by simp; omega)]; exact h1, by simp [h2]⟩
      · omega
    · have hi' : ¬ ((i : Int) < (fs.length : Int)) := by omega
      obtain ⟨hik, hl, hin⟩ := B.out
      have hie : i = fs.length := by omega
      clear hmk M0
      go_wp2_with fail
      simp [bodyPost, results, Try.results51, go_sem]
      have hH : ∀ b' l c cs', (b', cs') ∈ (g, cs) :: L → Hi w.heap.size (.slice (some ⟨b', 0, none⟩) l c) := fun b' l c cs' hb b l' c' e => by
        cases e; exact (hMA.out.new _ hb).1
      refine ⟨⟨cs, hl, ?_, hH g _ _ cs (by simp), ?_⟩, hMA.out.below⟩
      · have h0 : (cs.map ([·])).flatten = cs := by simp [List.flatten_eq_flatMap, List.flatMap_map]
        have := rls_flat (n := 1) (rs := cs.map ([·])) (by simp) hMA.out (g := g) (by rw [h0]; simp)
        rw [List.length_map, hl] at this; exact this
      · intro j u z hu hz
        obtain ⟨b', h1, h2⟩ := hin j z (by have := (List.getElem?_eq_some_iff.1 hz).1; omega) hz
        obtain rfl := Option.some.inj (hu.symm.trans h1)
        have := rls_flat (n := 1) (rs := rI z) rI_row hMA.out (g := b') (by simp [h2])
        rw [rI_len] at this; exact ⟨this, hH b' _ _ _ (by simp [h2]; exact .inr h2)⟩
--## d
set_option maxRecDepth 20000 in
set_option maxHeartbeats 1000000 in
theorem szI (v : Value) (zs : List Int) (L : Int) (w : World) (hP : Rls 1 w v (rI zs)) (hc : zs.length < 2 ^ 63) (hL : 0 ≤ L ∧ L ≤ 1048576) :
    Calls Try.prog 15 #[v, .int .i64 L] w (Gives (fun v => v = .int .i64 (if (zs.length : Int) ≤ L then L - (zs.length : Int) else -1)) w) := by
  obtain ⟨a, c, rfl, _⟩ := hP
  rw [rI_len]
  by_cases h : (zs.length : Int) ≤ L
  · rw [if_pos h]
    have h1 : ¬ (L - (zs.length : Int) < 0) := by omega
    have h2 : (wrap64 (L - (zs.length : Int))) = L - (zs.length : Int) := by unfold wrap64; omega
    go_enter Try.func15, Try.ntmps15
    go_wp2_with fail
    all_goals
      simp [bodyPost, results, Try.results15, go_sem]
    exact ⟨_, rfl, rfl, Below.refl _ _⟩
  · rw [if_neg h]
    have h1 : (L - (zs.length : Int) < 0) := by omega
    have h2 : (wrap64 (L - (zs.length : Int))) = L - (zs.length : Int) := by unfold wrap64; omega
    go_enter Try.func15, Try.ntmps15
    go_wp2_with fail
    all_goals
      simp [bodyPost, results, Try.results15, go_sem]
    exact ⟨_, rfl, rfl, Below.refl _ _⟩
--## d
set_option maxRecDepth 20000 in
set_option maxHeartbeats 1000000 in
theorem szT (v : Value) (ts : List V3n) (L : Int) (w : World) (hP : Rls 3 w v (rT ts)) (hc : ts.length < 2 ^ 63) (hL : 0 ≤ L ∧ L ≤ 1048576) :
    Calls Try.prog 47 #[v, .int .i64 L] w (Gives (fun v => v = .int .i64 (if (ts.length : Int) ≤ L then L - (ts.length : Int) else -1)) w) := by
  obtain ⟨a, c, rfl, _⟩ := hP
  rw [rT_len]
  by_cases h : (ts.length : Int) ≤ L
  · rw [if_pos h]
    have h1 : ¬ (L - (ts.length : Int) < 0) := by omega
    have h2 : (wrap64 (L - (ts.length : Int))) = L - (ts.length : Int) := by unfold wrap64; omega
    go_enter Try.func47, Try.ntmps47
    go_wp2_with fail
    all_goals
      simp [bodyPost, results, Try.results47, go_sem]
    exact ⟨_, rfl, rfl, Below.refl _ _⟩
  · rw [if_neg h]
    have h1 : (L - (ts.length : Int) < 0) := by omega
    have h2 : (wrap64 (L - (ts.length : Int))) = L - (ts.length : Int) := by unfold wrap64; omega
    go_enter Try.func47, Try.ntmps47
    go_wp2_with fail
    all_goals
      simp [bodyPost, results, Try.results47, go_sem]
    exact ⟨_, rfl, rfl, Below.refl _ _⟩
--## d
def okF (fs : List (List Int)) : Prop := fs.length ≤ 1048576 ∧ ∀ z ∈ fs, z.length ≤ 1048576
--## d
set_option maxRecDepth 20000 in
set_option maxHeartbeats 4000000 in
theorem szF (v : Value) (fs : List (List Int)) (L : Int) (w : World) (hP : Fls w v fs) (hc : fs.length < 2 ^ 63) (hcz : ∀ z ∈ fs, z.length < 2 ^ 63) (hL : 0 ≤ L ∧ L ≤ 1048576) :
    Calls Try.prog 48 #[v, .int .i64 L] w (Gives (fun v => ∃ l : Int, v = .int .i64 l ∧ l ≤ 1048576 ∧ (0 ≤ l → okF fs)) w) := by
  have hP' := hP
  obtain ⟨a, c, rfl⟩ := hP.slice
  clear hP
  by_cases h : (fs.length : Int) ≤ L
  · have h1 : ¬ (L - (fs.length : Int) < 0) := by omega
    have h2 : (wrap64 (L - (fs.length : Int))) = L - (fs.length : Int) := by unfold wrap64; omega
    have A : Aside (fs.length ≤ 1048576 ∧ (∀ z ∈ fs, z.length < 2 ^ 63) ∧ (0 ≤ L ∧ L ≤ 1048576) ∧ (fs.length : Int) ≤ L) := ⟨by omega, hcz, hL, h⟩
    go_enter Try.func48, Try.ntmps48
    go_wp2_with fail
    go_loopg [1, 5] fs.length (fun k s1 s5 wr => ∃ (i : Nat) (l : Int), s5 = .int .i64 i ∧ s1 = .int .i64 l ∧ i + k = fs.length ∧ (0 ≤ l ∧ l ≤ 1048576) ∧ (∀ (j : Nat) z, j < i → fs[j]? = some z → z.length ≤ 1048576) ∧ Below w.heap.size w wr)
    · exact ⟨0, _, rfl, rfl, by omega, by omega, fun j z hj => by omega, Below.refl _ _⟩
    · obtain ⟨i, l, rfl, rfl, hik, hl, hin, HB⟩ := hrel
      have B : Aside (i + gk = fs.length ∧ (0 ≤ l ∧ l ≤ 1048576) ∧ (∀ (j : Nat) z, j < i → fs[j]? = some z → z.length ≤ 1048576) ∧ Below w.heap.size w wr) := ⟨hik, hl, hin, HB⟩
      by_cases hi : i < fs.length
      · obtain ⟨z, hz⟩ : ∃ z, fs[i]? = some z := ⟨fs[i], List.getElem?_eq_getElem hi⟩
        obtain ⟨b, c', u, e0, hbl, hc0, hR⟩ := (hP'.below HB).at hz
        cases e0
        have hi' : (i : Int) < (fs.length : Int) := by omega
        have P0 : Aside (fs[i]? = some z ∧ z.length < 2 ^ 63 ∧ Rls 1 wr u (rI z)) := ⟨hz, hcz z (List.mem_of_getElem? hz), hR⟩
        clear hbl hP' hz hik hl hin HB hR h h1 h2 hL hcz hc
        by_cases hz1 : (z.length : Int) ≤ l
        · have hs1 : ¬ (l - (z.length : Int) < 0) := by omega
          go_wp2_with (first
            | (refine wpList_idxR rfl rfl (by kernel_rfl) (by kernel_rfl) rfl rfl (Int.natCast_nonneg _) hi' ?_; simp only [Int.toNat_natCast, Nat.mul_one, Addr.add_mid, Nat.zero_add])
            | (go_at_call 15; refine (szI _ _ _ _ P0.out.2.2 P0.out.2.1 B.out.2.1).mono ?_; rintro e w' ⟨_, rfl, eb, hb⟩; rw [if_pos hz1] at eb; cases eb; have hb' : Aside _ := hb; clear hb))
          all_goals
            obtain ⟨hik, hl, hin, HB⟩ := B.out
            go_roundg (gk - 1)
            · refine ⟨i + 1, _, ?_, rfl, by omega, by omega, ?_, below_step hb'.out HB⟩
              · first
                  | (congr 1; done)
                  | (congr 1; have := A.out.1; unfold wrap64; omega)
              · intro j y hj hy
                by_cases hji : j = i
                · subst hji
                  obtain rfl : z = y := Option.some.inj (P0.out.1.symm.trans hy)
                  omega
                · exact hin j y (by omega) hy
            · omega
        · go_wp2_with (first
            | (refine wpList_idxR rfl rfl (by kernel_rfl) (by kernel_rfl) rfl rfl (Int.natCast_nonneg _) hi' ?_; simp only [Int.toNat_natCast, Nat.mul_one, Addr.add_mid, Nat.zero_add])
            | (go_at_call 15; refine (szI _ _ _ _ P0.out.2.2 P0.out.2.1 B.out.2.1).mono ?_; rintro e w' ⟨_, rfl, eb, hb⟩; rw [if_neg hz1] at eb; cases eb; have hb' : Aside _ := hb; clear hb))
          all_goals
            simp [bodyPost, results, Try.results48, go_sem]
            exact ⟨_, rfl, ⟨-1, rfl, by omega, fun h => by omega⟩, below_step hb'.out B.out.2.2.2⟩
      · have hi' : ¬ ((i : Int) < (fs.length : Int)) := by omega
        have hie : i = fs.length := by omega
        clear h h1 h2 hL hcz hc hP'
        go_wp2_with fail
        simp [bodyPost, results, Try.results48, go_sem]
        refine ⟨_, rfl, ⟨l, rfl, hl.2, fun _ => ⟨A.out.1, fun z hz => ?_⟩⟩, HB⟩
        obtain ⟨j, hj⟩ := List.getElem?_of_mem hz
        exact hin j z (by have := (List.getElem?_eq_some_iff.1 hj).1; omega) hj
  · have h1 : (L - (fs.length : Int) < 0) := by omega
    have h2 : (wrap64 (L - (fs.length : Int))) = L - (fs.length : Int) := by unfold wrap64; omega
    go_enter Try.func48, Try.ntmps48
    go_wp2_with fail
    all_goals
      simp [bodyPost, results, Try.results48, go_sem]
    exact ⟨_, rfl, ⟨-1, rfl, by omega, fun h => by omega⟩, Below.refl _ _⟩
--## d
set_option maxRecDepth 20000 in
set_option maxHeartbeats 4000000 in
theorem eqI (v u : Value) (zs : List Int) (w : World) (hP : Rls 1 w v (rI zs)) (hQ : Rls 1 w u (rI zs)) (hn : zs.length ≤ 1048576) :
    Calls Try.prog 24 #[v, u] w (Gives (isB true) w) := by
  have hP' := hP
  have hQ' := hQ
  obtain ⟨a, c, rfl, _⟩ := hP
  obtain ⟨a2, c2, rfl, _⟩ := hQ
  rw [rI_len] at *
  go_enter Try.func24, Try.ntmps24
  go_wp2_with fail
  go_loopg [5] zs.length (fun k s5 wr => ∃ (i : Nat), s5 = .int .i64 i ∧ i + k = zs.length ∧ Below w.heap.size w wr)
  · exact ⟨0, rfl, by omega, Below.refl _ _⟩
  · obtain ⟨i, rfl, hik, HB⟩ := hrel
    have B : Aside (i + gk = zs.length ∧ Below w.heap.size w wr ∧ zs.length ≤ 1048576) := ⟨hik, HB, hn⟩
    by_cases hi : i < zs.length
    · obtain ⟨z, hz⟩ : ∃ z, zs[i]? = some z := ⟨zs[i], List.getElem?_eq_getElem hi⟩
      obtain ⟨b, c1, e1, hb1, hc1⟩ := (hP'.below HB).at (rI_get hz)
      obtain ⟨b2, c3, e2, hb2, hc2⟩ := (hQ'.below HB).at (rI_get hz)
      rw [rI_len] at e1 e2
      cases e1; cases e2
      have hi' : (i : Int) < (zs.length : Int) := by omega
      have hi0 : (0 : Int) ≤ (i : Int) := Int.natCast_nonneg _
      have hx0 : wr.cell? (b.add i) = some (.int .i16 z) := by have := hc1 0 _ rfl; rw [Nat.mul_one] at this; exact this
      have hx1 : wr.cell? (b2.add i) = some (.int .i16 z) := by have := hc2 0 _ rfl; rw [Nat.mul_one] at this; exact this
      clear hz hik hP' hQ' HB
      have hK : ∀ W, Below wr.heap.size wr W → W.cell? (b.add i) = some (.int .i16 z) ∧ W.cell? (b2.add i) = some (.int .i16 z) ∧ Below wr.heap.size wr W := fun W hW => ⟨by rw [hW.cell (by rw [Nat.mul_one] at hb1; exact hb1)]; exact hx0, by rw [hW.cell (by rw [Nat.mul_one] at hb2; exact hb2)]; exact hx1, hW⟩
      clear hb1 hb2 hc1 hc2 hx0 hx1
      go_wp2_with fail
      go_region_held3 (fun W => W.cell? (b.add i) = some (.int .i16 z) ∧ W.cell? (b2.add i) = some (.int .i16 z) ∧ Below wr.heap.size wr W) (first | exact hK _ (Below.refl _ _) | exact hK _ (Below.drew (Below.refl _ _)) | exact hK _ (Below.drew (And.right (And.right (by assumption)))) | go_keep) (first | fail)
      all_goals go_wp2_with fail
      all_goals
        obtain ⟨hik, HB, hn'⟩ := B.out
        go_roundg (gk - 1)
        · refine ⟨i + 1, ?_, by omega, below_step (And.right (And.right (by assumption))) HB⟩
          first
            | (congr 1; done)
            | (congr 1; unfold wrap64; omega)
        · omega
    · have hi' : ¬ ((i : Int) < (zs.length : Int)) := by omega
      clear hP' hQ'
      go_wp2_with fail
      simp [bodyPost, results, Try.results24, go_sem]
      exact ⟨_, rfl, rfl, HB⟩
--## d
set_option maxRecDepth 20000 in
set_option maxHeartbeats 4000000 in
theorem eqF (v u : Value) (fs : List (List Int)) (w : World) (hP : Fls w v fs) (hQ : Fls w u fs) (hn : okF fs) :
    Calls Try.prog 53 #[v, u] w (Gives (isB true) w) := by
  have hP' := hP
  have hQ' := hQ
  obtain ⟨a, c, rfl⟩ := hP.slice
  obtain ⟨a2, c2, rfl⟩ := hQ.slice
  clear hP hQ
  have A : Aside (okF fs) := hn
  clear hn
  go_enter Try.func53, Try.ntmps53
  go_wp2_with fail
  go_loopg [5] fs.length (fun k s5 wr => ∃ (i : Nat), s5 = .int .i64 i ∧ i + k = fs.length ∧ Below w.heap.size w wr)
  · exact ⟨0, rfl, by omega, Below.refl _ _⟩
  · obtain ⟨i, rfl, hik, HB⟩ := hrel
    have B : Aside (i + gk = fs.length ∧ Below w.heap.size w wr) := ⟨hik, HB⟩
    by_cases hi : i < fs.length
    · obtain ⟨z, hz⟩ : ∃ z, fs[i]? = some z := ⟨fs[i], List.getElem?_eq_getElem hi⟩
      obtain ⟨b, c1, x, e1, hb1, hc1, hR⟩ := (hP'.below HB).at hz
      obtain ⟨b2, c3, y, e2, hb2, hc2, hS⟩ := (hQ'.below HB).at hz
      cases e1; cases e2
      have hi' : (i : Int) < (fs.length : Int) := by omega
      have hi0 : (0 : Int) ≤ (i : Int) := Int.natCast_nonneg _
      have C : Aside (Rls 1 wr x (rI z) ∧ Rls 1 wr y (rI z) ∧ z.length ≤ 1048576) := ⟨hR, hS, A.out.2 z (List.mem_of_getElem? hz)⟩
      clear hR hS hz hik hP' hQ' HB
      have hK : ∀ W, Below wr.heap.size wr W → W.cell? (b.add i) = some x ∧ W.cell? (b2.add i) = some y ∧ Below wr.heap.size wr W := fun W hW => ⟨by rw [hW.cell hb1]; exact hc1, by rw [hW.cell hb2]; exact hc2, hW⟩
      clear hb1 hb2 hc1 hc2
      go_wp2_with fail
      go_region_held3 (fun W => W.cell? (b.add i) = some x ∧ W.cell? (b2.add i) = some y ∧ Below wr.heap.size wr W) (first | exact hK _ (Below.refl _ _) | exact hK _ (Below.drew (Below.refl _ _)) | exact hK _ (Below.drew (And.right (And.right (by assumption)))) | exact hK _ (below_step hb (And.right (And.right (by assumption)))) | exact hK _ (below_step hb (Below.drew (And.right (And.right (by assumption))))) | go_keep) (first | (go_at_call 24; refine (eqI _ _ _ _ (C.out.1.below (And.right (And.right (by assumption)))) (C.out.2.1.below (And.right (And.right (by assumption)))) C.out.2.2).mono ?_; rintro e w' ⟨_, rfl, eb, hb⟩; cases eb))
      all_goals go_wp2_with fail
      all_goals
        obtain ⟨hik, HB⟩ := B.out
        go_roundg (gk - 1)
        · refine ⟨i + 1, ?_, by omega, below_step (And.right (And.right (by assumption))) HB⟩
          first
            | (congr 1; done)
            | (congr 1; have := A.out.1; unfold wrap64; omega)
        · omega
    · have hi' : ¬ ((i : Int) < (fs.length : Int)) := by omega
      clear hP' hQ'
      go_wp2_with fail
      simp [bodyPost, results, Try.results53, go_sem]
      exact ⟨_, rfl, rfl, HB⟩
--## d
section
--## d
open Go.Sx
--## d
structure CkE (t : Tb) : Prop where
  out : check Try.prog sums 60 30 22 [.p (.agg [.f32 0, .f32 1, .f32 2]), .p (.agg [.f32 0, .f32 1, .f32 2])] topN t = true
--## d
set_option maxRecDepth 100000 in
set_option maxHeartbeats 100000000 in
theorem checkedE : CkE (⟨3, vars 3, [], []⟩) := ⟨by kernel_rfl⟩
--## d
theorem eqPt (x0 x1 x2 : Nat) (w : World) : Calls Try.prog 22 #[.agg #[.float .f32 x0, .float .f32 x1, .float .f32 x2], .agg #[.float .f32 x0, .float .f32 x1, .float .f32 x2]] w (Gives (isB true) w) := by
  have h : Holds (envOf [.f (kcv .f32 x0), .f (kcv .f32 x1), .f (kcv .f32 x2)]) Try.prog 22 [.p (.agg [.f32 0, .f32 1, .f32 2]), .p (.agg [.f32 0, .f32 1, .f32 2])] ⟨3, vars 3, [], []⟩ := (check_holds follows (sums_ok _) (sums_ext _) checkedE.out)
  exact h (vars_wf 3) (fun x hx => (by cases hx)) [.agg #[.float .f32 x0, .float .f32 x1, .float .f32 x2], .agg #[.float .f32 x0, .float .f32 x1, .float .f32 x2]] (.cons ⟨_, rfl, (.cons (var_f32 rfl rfl) (.cons (var_f32 rfl rfl) (.cons (var_f32 rfl rfl) .nil)))⟩ (.cons ⟨_, rfl, (.cons (var_f32 rfl rfl) (.cons (var_f32 rfl rfl) (.cons (var_f32 rfl rfl) .nil)))⟩ .nil)) w
--## d
end
--## d
set_option maxRecDepth 20000 in
set_option maxHeartbeats 4000000 in
theorem eqT (v u : Value) (ts : List V3n) (w : World) (hP : Rls 3 w v (rT ts)) (hQ : Rls 3 w u (rT ts)) (hn : ts.length ≤ 1048576) :
    Calls Try.prog 52 #[v, u] w (Gives (isB true) w) := by
  have hP' := hP
  have hQ' := hQ
  obtain ⟨a, c, rfl, _⟩ := hP
  obtain ⟨a2, c2, rfl, _⟩ := hQ
  rw [rT_len] at *
  go_enter Try.func52, Try.ntmps52
  go_wp2_with fail
  go_loopg [5] ts.length (fun k s5 wr => ∃ (i : Nat), s5 = .int .i64 i ∧ i + k = ts.length ∧ Below w.heap.size w wr)
  · exact ⟨0, rfl, by omega, Below.refl _ _⟩
  · obtain ⟨i, rfl, hik, HB⟩ := hrel
    have B : Aside (i + gk = ts.length ∧ Below w.heap.size w wr ∧ ts.length ≤ 1048576) := ⟨hik, HB, hn⟩
    by_cases hi : i < ts.length
    · obtain ⟨⟨p0, p1, p2⟩, hz⟩ : ∃ z, ts[i]? = some z := ⟨ts[i], List.getElem?_eq_getElem hi⟩
      obtain ⟨b, c1, e1, hb1, hc1⟩ := (hP'.below HB).at (rT_get hz)
      obtain ⟨b2, c3, e2, hb2, hc2⟩ := (hQ'.below HB).at (rT_get hz)
      rw [rT_len] at e1 e2
      cases e1; cases e2
      have hi' : (i : Int) < (ts.length : Int) := by omega
      have hi0 : (0 : Int) ≤ (i : Int) := Int.natCast_nonneg _
      have hK : ∀ W, Below wr.heap.size wr W → W.cell? (b.add (i * 3)) = some (.float .f32 p0) ∧ W.cell? ⟨(b.add (i * 3)).block, (b.add (i * 3)).off + 1, none⟩ = some (.float .f32 p1) ∧ W.cell? ⟨(b.add (i * 3)).block, (b.add (i * 3)).off + 2, none⟩ = some (.float .f32 p2) ∧ W.cell? (b2.add (i * 3)) = some (.float .f32 p0) ∧ W.cell? ⟨(b2.add (i * 3)).block, (b2.add (i * 3)).off + 1, none⟩ = some (.float .f32 p1) ∧ W.cell? ⟨(b2.add (i * 3)).block, (b2.add (i * 3)).off + 2, none⟩ = some (.float .f32 p2) ∧ Below wr.heap.size wr W := fun W hW =>
        ⟨cells_later hW hb1 hc1 0 _ rfl, cells_later hW hb1 hc1 1 _ rfl, cells_later hW hb1 hc1 2 _ rfl, cells_later hW hb2 hc2 0 _ rfl, cells_later hW hb2 hc2 1 _ rfl, cells_later hW hb2 hc2 2 _ rfl, hW⟩
      clear hz hik hP' hQ' HB hb1 hb2 hc1 hc2
      go_wp2_with fail
      go_region_held3 (fun W => W.cell? (b.add (i * 3)) = some (.float .f32 p0) ∧ W.cell? ⟨(b.add (i * 3)).block, (b.add (i * 3)).off + 1, none⟩ = some (.float .f32 p1) ∧ W.cell? ⟨(b.add (i * 3)).block, (b.add (i * 3)).off + 2, none⟩ = some (.float .f32 p2) ∧ W.cell? (b2.add (i * 3)) = some (.float .f32 p0) ∧ W.cell? ⟨(b2.add (i * 3)).block, (b2.add (i * 3)).off + 1, none⟩ = some (.float .f32 p1) ∧ W.cell? ⟨(b2.add (i * 3)).block, (b2.add (i * 3)).off + 2, none⟩ = some (.float .f32 p2) ∧ Below wr.heap.size wr W) (first | exact hK _ (Below.refl _ _) | exact hK _ (Below.drew (Below.refl _ _)) | exact hK _ (Below.drew (And.right (And.right (And.right (And.right (And.right (And.right (by assumption)))))))) | exact hK _ (below_step hb (And.right (And.right (And.right (And.right (And.right (And.right (by assumption)))))))) | exact hK _ (below_step hb (Below.drew (And.right (And.right (And.right (And.right (And.right (And.right (by assumption))))))))) | go_keep) (first | (go_at_call 22; refine (eqPt _ _ _ _).mono ?_; rintro e w' ⟨_, rfl, eb, hb⟩; cases eb))
      all_goals go_wp2_with fail
      all_goals
        obtain ⟨hik, HB, hn'⟩ := B.out
        go_roundg (gk - 1)
        · refine ⟨i + 1, ?_, by omega, below_step (And.right (And.right (And.right (And.right (And.right (And.right (by assumption))))))) HB⟩
          first
            | (congr 1; done)
            | (congr 1; unfold wrap64; omega)
        · omega
    · have hi' : ¬ ((i : Int) < (ts.length : Int)) := by omega
      clear hP' hQ'
      go_wp2_with fail
      simp [bodyPost, results, Try.results52, go_sem]
      exact ⟨_, rfl, rfl, HB⟩
--## d
end Go.Proofs.Ytpainjecdolgiaa
