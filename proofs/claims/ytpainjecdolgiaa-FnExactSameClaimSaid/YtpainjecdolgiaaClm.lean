/- Contracts: claims compared, copied, measured. -/
import Derived.Test.YtpainjecdolgiaaSol
import Derived.Deep.RegionWith
namespace Go.Proofs.Ytpainjecdolgiaa
--## d
open Go.ChangeShapes Go.WideShapes Go.ChangeAt Go.RowKit Go.Flo Go.Mem
set_option linter.unusedSimpArgs false
set_option linter.unusedVariables false
set_option maxRecDepth 20000
--## d
def clm (k : Int) (a : V3n) (s f : Int) (h : Nat) (v : Value) : Value := .agg #[.int .i8 k, .float .f32 a.1, .float .f32 a.2.1, .float .f32 a.2.2, .int .i64 s, .int .i64 f, .float .f32 h, v]
--## d
def sameH (h g : Nat) : Bool := bitsV (kcv .f32 h) == bitsV (kcv .f32 g)
--## d
def sameC (k0 k1 : Int) (a0 a1 : V3n) (s0 s1 f0 f1 : Int) (h0 h1 : Nat) (z0 z1 : List Int) : Bool := (k0 == k1) && sameT a0 a1 && (s0 == s1) && (f0 == f1) && sameH h0 h1 && decide (z0 = z1)
--## d
set_option maxHeartbeats 8000000 in
theorem SameClaimI (k0 : Int) (a0 : V3n) (s0 f0 : Int) (h0 : Nat) (k1 : Int) (a1 : V3n) (s1 f1 : Int) (h1 : Nat) (v0 v1 : Value) (z0 z1 : List Int) (w : World) (hP : Rls 1 w v0 (rI z0)) (hQ : Rls 1 w v1 (rI z1)) (hn : z0.length ≤ 1048576) :
    Calls Try.prog 8 #[.agg #[.int .i8 k0, .float .f32 a0.1, .float .f32 a0.2.1, .float .f32 a0.2.2, .int .i64 s0, .int .i64 f0, .float .f32 h0, v0], .agg #[.int .i8 k1, .float .f32 a1.1, .float .f32 a1.2.1, .float .f32 a1.2.2, .int .i64 s1, .int .i64 f1, .float .f32 h1, v1]] w (Gives (isB (sameC k0 k1 a0 a1 s0 s1 f0 f1 h0 h1 z0 z1)) w) := by
  have A : Aside (Rls 1 w v0 (rI z0) ∧ Rls 1 w v1 (rI z1) ∧ z0.length ≤ 1048576) := ⟨hP, hQ, hn⟩
  obtain ⟨x0, y0, rfl, _⟩ := hP
  obtain ⟨x1, y1, rfl, _⟩ := hQ
  clear hn
  cases b0 : (k0 == k1)
  · have HP : ∀ w, Calls Try.prog 19 #[.agg #[.float .f32 a0.1, .float .f32 a0.2.1, .float .f32 a0.2.2], .agg #[.float .f32 a1.1, .float .f32 a1.2.1, .float .f32 a1.2.2]] w (Gives (isB (sameT a0 a1)) w) := fun w => SamePointI a0.1 a0.2.1 a0.2.2 a1.1 a1.2.1 a1.2.2 w
    have HN : ∀ w, Calls Try.prog 20 #[.float .f32 h0, .float .f32 h1] w (Drew' (isB (sameH h0 h1)) w) := fun w => SameNumberI h0 h1 w
    have HP2 : Aside _ := HP
    have HN2 : Aside _ := HN
    clear HP HN
    have HR : Aside (sameC k0 k1 a0 a1 s0 s1 f0 f1 h0 h1 z0 z1 = false) := by show sameC k0 k1 a0 a1 s0 s1 f0 f1 h0 h1 z0 z1 = false; unfold sameC; simp only [b0, Bool.true_and, Bool.false_and, Bool.and_false, Bool.and_self]
    go_enter Try.func8, Try.ntmps8
    go_wp2_with (first | (go_at_call 19; refine (HP2.out _).mono ?_; rintro e w' ⟨_, rfl, eb, hb⟩; cases eb; obtain ⟨hc, hf⟩ := bcell hb; (try simp at hc hf); have hs := hb.size; (try simp at hs); (try (have hz0 : w.heap.size < w'.heap.size := (by omega))); (try (have hz1 : w.heap.size + 1 < w'.heap.size := (by omega))); have HB1 : Aside (Below w.heap.size w w') := below_step hb (below_alloc (below_alloc (Below.refl _ _))); clear hb) | (go_at_call 20; refine (HN2.out _).mono ?_; rintro e w'' ⟨_, m, rfl, eb, rfl⟩; cases eb) | (go_at_call 21; refine (eqI2 _ _ z0 z1 _ (A.out.1.below (below_drewN HB1.out _)) (A.out.2.1.below (below_drewN HB1.out _)) A.out.2.2).mono ?_; rintro e w3 ⟨_, rfl, eb, hb⟩; cases eb; have HB3 : Aside (Below w.heap.size w w3) := below_step hb (below_drewN HB1.out _); clear hb))
    all_goals
      simp [bodyPost, results, Try.results8, go_sem]
      exact ⟨_, rfl, by rw [HR.out]; first | exact rfl | (rw [hb5.out]; exact rfl) | (have := hb5.out; simp_all [isB]; done), (by first | exact HB3.out | exact below_drewN HB1.out _ | exact HB1.out | exact (below_alloc (below_alloc (Below.refl _ _))))⟩
  · skip
    cases b1 : sameT a0 a1
    · have HP : ∀ w, Calls Try.prog 19 #[.agg #[.float .f32 a0.1, .float .f32 a0.2.1, .float .f32 a0.2.2], .agg #[.float .f32 a1.1, .float .f32 a1.2.1, .float .f32 a1.2.2]] w (Gives (isB (sameT a0 a1)) w) := fun w => SamePointI a0.1 a0.2.1 a0.2.2 a1.1 a1.2.1 a1.2.2 w
      have HN : ∀ w, Calls Try.prog 20 #[.float .f32 h0, .float .f32 h1] w (Drew' (isB (sameH h0 h1)) w) := fun w => SameNumberI h0 h1 w
      rw [b1] at HP
      have HP2 : Aside _ := HP
      have HN2 : Aside _ := HN
      clear HP HN
      have HR : Aside (sameC k0 k1 a0 a1 s0 s1 f0 f1 h0 h1 z0 z1 = false) := by show sameC k0 k1 a0 a1 s0 s1 f0 f1 h0 h1 z0 z1 = false; unfold sameC; simp only [b0, b1, Bool.true_and, Bool.false_and, Bool.and_false, Bool.and_self]
      go_enter Try.func8, Try.ntmps8
      go_wp2_with (first | (go_at_call 19; refine (HP2.out _).mono ?_; rintro e w' ⟨_, rfl, eb, hb⟩; cases eb; obtain ⟨hc, hf⟩ := bcell hb; (try simp at hc hf); have hs := hb.size; (try simp at hs); (try (have hz0 : w.heap.size < w'.heap.size := (by omega))); (try (have hz1 : w.heap.size + 1 < w'.heap.size := (by omega))); have HB1 : Aside (Below w.heap.size w w') := below_step hb (below_alloc (below_alloc (Below.refl _ _))); clear hb) | (go_at_call 20; refine (HN2.out _).mono ?_; rintro e w'' ⟨_, m, rfl, eb, rfl⟩; cases eb) | (go_at_call 21; refine (eqI2 _ _ z0 z1 _ (A.out.1.below (below_drewN HB1.out _)) (A.out.2.1.below (below_drewN HB1.out _)) A.out.2.2).mono ?_; rintro e w3 ⟨_, rfl, eb, hb⟩; cases eb; have HB3 : Aside (Below w.heap.size w w3) := below_step hb (below_drewN HB1.out _); clear hb))
      all_goals
        simp [bodyPost, results, Try.results8, go_sem]
        exact ⟨_, rfl, by rw [HR.out]; first | exact rfl | (rw [hb5.out]; exact rfl) | (have := hb5.out; simp_all [isB]; done), (by first | exact HB3.out | exact below_drewN HB1.out _ | exact HB1.out | exact (below_alloc (below_alloc (Below.refl _ _))))⟩
    · skip
      cases b2 : (s0 == s1)
      · have HP : ∀ w, Calls Try.prog 19 #[.agg #[.float .f32 a0.1, .float .f32 a0.2.1, .float .f32 a0.2.2], .agg #[.float .f32 a1.1, .float .f32 a1.2.1, .float .f32 a1.2.2]] w (Gives (isB (sameT a0 a1)) w) := fun w => SamePointI a0.1 a0.2.1 a0.2.2 a1.1 a1.2.1 a1.2.2 w
        have HN : ∀ w, Calls Try.prog 20 #[.float .f32 h0, .float .f32 h1] w (Drew' (isB (sameH h0 h1)) w) := fun w => SameNumberI h0 h1 w
        rw [b1] at HP
        have HP2 : Aside _ := HP
        have HN2 : Aside _ := HN
        clear HP HN
        have HR : Aside (sameC k0 k1 a0 a1 s0 s1 f0 f1 h0 h1 z0 z1 = false) := by show sameC k0 k1 a0 a1 s0 s1 f0 f1 h0 h1 z0 z1 = false; unfold sameC; simp only [b0, b1, b2, Bool.true_and, Bool.false_and, Bool.and_false, Bool.and_self]
        go_enter Try.func8, Try.ntmps8
        go_wp2_with (first | (go_at_call 19; refine (HP2.out _).mono ?_; rintro e w' ⟨_, rfl, eb, hb⟩; cases eb; obtain ⟨hc, hf⟩ := bcell hb; (try simp at hc hf); have hs := hb.size; (try simp at hs); (try (have hz0 : w.heap.size < w'.heap.size := (by omega))); (try (have hz1 : w.heap.size + 1 < w'.heap.size := (by omega))); have HB1 : Aside (Below w.heap.size w w') := below_step hb (below_alloc (below_alloc (Below.refl _ _))); clear hb) | (go_at_call 20; refine (HN2.out _).mono ?_; rintro e w'' ⟨_, m, rfl, eb, rfl⟩; cases eb) | (go_at_call 21; refine (eqI2 _ _ z0 z1 _ (A.out.1.below (below_drewN HB1.out _)) (A.out.2.1.below (below_drewN HB1.out _)) A.out.2.2).mono ?_; rintro e w3 ⟨_, rfl, eb, hb⟩; cases eb; have HB3 : Aside (Below w.heap.size w w3) := below_step hb (below_drewN HB1.out _); clear hb))
        all_goals
          simp [bodyPost, results, Try.results8, go_sem]
          exact ⟨_, rfl, by rw [HR.out]; first | exact rfl | (rw [hb5.out]; exact rfl) | (have := hb5.out; simp_all [isB]; done), (by first | exact HB3.out | exact below_drewN HB1.out _ | exact HB1.out | exact (below_alloc (below_alloc (Below.refl _ _))))⟩
      · skip
        cases b3 : (f0 == f1)
        · have HP : ∀ w, Calls Try.prog 19 #[.agg #[.float .f32 a0.1, .float .f32 a0.2.1, .float .f32 a0.2.2], .agg #[.float .f32 a1.1, .float .f32 a1.2.1, .float .f32 a1.2.2]] w (Gives (isB (sameT a0 a1)) w) := fun w => SamePointI a0.1 a0.2.1 a0.2.2 a1.1 a1.2.1 a1.2.2 w
          have HN : ∀ w, Calls Try.prog 20 #[.float .f32 h0, .float .f32 h1] w (Drew' (isB (sameH h0 h1)) w) := fun w => SameNumberI h0 h1 w
          rw [b1] at HP
          have HP2 : Aside _ := HP
          have HN2 : Aside _ := HN
          clear HP HN
          have HR : Aside (sameC k0 k1 a0 a1 s0 s1 f0 f1 h0 h1 z0 z1 = false) := by show sameC k0 k1 a0 a1 s0 s1 f0 f1 h0 h1 z0 z1 = false; unfold sameC; simp only [b0, b1, b2, b3, Bool.true_and, Bool.false_and, Bool.and_false, Bool.and_self]
          go_enter Try.func8, Try.ntmps8
          go_wp2_with (first | (go_at_call 19; refine (HP2.out _).mono ?_; rintro e w' ⟨_, rfl, eb, hb⟩; cases eb; obtain ⟨hc, hf⟩ := bcell hb; (try simp at hc hf); have hs := hb.size; (try simp at hs); (try (have hz0 : w.heap.size < w'.heap.size := (by omega))); (try (have hz1 : w.heap.size + 1 < w'.heap.size := (by omega))); have HB1 : Aside (Below w.heap.size w w') := below_step hb (below_alloc (below_alloc (Below.refl _ _))); clear hb) | (go_at_call 20; refine (HN2.out _).mono ?_; rintro e w'' ⟨_, m, rfl, eb, rfl⟩; cases eb) | (go_at_call 21; refine (eqI2 _ _ z0 z1 _ (A.out.1.below (below_drewN HB1.out _)) (A.out.2.1.below (below_drewN HB1.out _)) A.out.2.2).mono ?_; rintro e w3 ⟨_, rfl, eb, hb⟩; cases eb; have HB3 : Aside (Below w.heap.size w w3) := below_step hb (below_drewN HB1.out _); clear hb))
          all_goals
            simp [bodyPost, results, Try.results8, go_sem]
            exact ⟨_, rfl, by rw [HR.out]; first | exact rfl | (rw [hb5.out]; exact rfl) | (have := hb5.out; simp_all [isB]; done), (by first | exact HB3.out | exact below_drewN HB1.out _ | exact HB1.out | exact (below_alloc (below_alloc (Below.refl _ _))))⟩
        · skip
          cases b4 : sameH h0 h1
          · have HP : ∀ w, Calls Try.prog 19 #[.agg #[.float .f32 a0.1, .float .f32 a0.2.1, .float .f32 a0.2.2], .agg #[.float .f32 a1.1, .float .f32 a1.2.1, .float .f32 a1.2.2]] w (Gives (isB (sameT a0 a1)) w) := fun w => SamePointI a0.1 a0.2.1 a0.2.2 a1.1 a1.2.1 a1.2.2 w
            have HN : ∀ w, Calls Try.prog 20 #[.float .f32 h0, .float .f32 h1] w (Drew' (isB (sameH h0 h1)) w) := fun w => SameNumberI h0 h1 w
            rw [b1] at HP
            rw [b4] at HN
            have HP2 : Aside _ := HP
            have HN2 : Aside _ := HN
            clear HP HN
            have HR : Aside (sameC k0 k1 a0 a1 s0 s1 f0 f1 h0 h1 z0 z1 = false) := by show sameC k0 k1 a0 a1 s0 s1 f0 f1 h0 h1 z0 z1 = false; unfold sameC; simp only [b0, b1, b2, b3, b4, Bool.true_and, Bool.false_and, Bool.and_false, Bool.and_self]
            go_enter Try.func8, Try.ntmps8
            go_wp2_with (first | (go_at_call 19; refine (HP2.out _).mono ?_; rintro e w' ⟨_, rfl, eb, hb⟩; cases eb; obtain ⟨hc, hf⟩ := bcell hb; (try simp at hc hf); have hs := hb.size; (try simp at hs); (try (have hz0 : w.heap.size < w'.heap.size := (by omega))); (try (have hz1 : w.heap.size + 1 < w'.heap.size := (by omega))); have HB1 : Aside (Below w.heap.size w w') := below_step hb (below_alloc (below_alloc (Below.refl _ _))); clear hb) | (go_at_call 20; refine (HN2.out _).mono ?_; rintro e w'' ⟨_, m, rfl, eb, rfl⟩; cases eb) | (go_at_call 21; refine (eqI2 _ _ z0 z1 _ (A.out.1.below (below_drewN HB1.out _)) (A.out.2.1.below (below_drewN HB1.out _)) A.out.2.2).mono ?_; rintro e w3 ⟨_, rfl, eb, hb⟩; cases eb; have HB3 : Aside (Below w.heap.size w w3) := below_step hb (below_drewN HB1.out _); clear hb))
            all_goals
              simp [bodyPost, results, Try.results8, go_sem]
              exact ⟨_, rfl, by rw [HR.out]; first | exact rfl | (rw [hb5.out]; exact rfl) | (have := hb5.out; simp_all [isB]; done), (by first | exact HB3.out | exact below_drewN HB1.out _ | exact HB1.out | exact (below_alloc (below_alloc (Below.refl _ _))))⟩
          · skip
            cases b5 : decide (z0 = z1)
            · have HP : ∀ w, Calls Try.prog 19 #[.agg #[.float .f32 a0.1, .float .f32 a0.2.1, .float .f32 a0.2.2], .agg #[.float .f32 a1.1, .float .f32 a1.2.1, .float .f32 a1.2.2]] w (Gives (isB (sameT a0 a1)) w) := fun w => SamePointI a0.1 a0.2.1 a0.2.2 a1.1 a1.2.1 a1.2.2 w
              have HN : ∀ w, Calls Try.prog 20 #[.float .f32 h0, .float .f32 h1] w (Drew' (isB (sameH h0 h1)) w) := fun w => SameNumberI h0 h1 w
              rw [b1] at HP
              rw [b4] at HN
              have HP2 : Aside _ := HP
              have HN2 : Aside _ := HN
              clear HP HN
              have HR : Aside (sameC k0 k1 a0 a1 s0 s1 f0 f1 h0 h1 z0 z1 = false) := by show sameC k0 k1 a0 a1 s0 s1 f0 f1 h0 h1 z0 z1 = false; unfold sameC; simp only [b0, b1, b2, b3, b4, b5, Bool.true_and, Bool.false_and, Bool.and_false, Bool.and_self]
              have hb5 : Aside (decide (z0 = z1) = false) := b5
              clear b5
              go_enter Try.func8, Try.ntmps8
              go_wp2_with (first | (go_at_call 19; refine (HP2.out _).mono ?_; rintro e w' ⟨_, rfl, eb, hb⟩; cases eb; obtain ⟨hc, hf⟩ := bcell hb; (try simp at hc hf); have hs := hb.size; (try simp at hs); (try (have hz0 : w.heap.size < w'.heap.size := (by omega))); (try (have hz1 : w.heap.size + 1 < w'.heap.size := (by omega))); have HB1 : Aside (Below w.heap.size w w') := below_step hb (below_alloc (below_alloc (Below.refl _ _))); clear hb) | (go_at_call 20; refine (HN2.out _).mono ?_; rintro e w'' ⟨_, m, rfl, eb, rfl⟩; cases eb) | (go_at_call 21; refine (eqI2 _ _ z0 z1 _ (A.out.1.below (below_drewN HB1.out _)) (A.out.2.1.below (below_drewN HB1.out _)) A.out.2.2).mono ?_; rintro e w3 ⟨_, rfl, eb, hb⟩; cases eb; have HB3 : Aside (Below w.heap.size w w3) := below_step hb (below_drewN HB1.out _); clear hb))
              all_goals
                simp [bodyPost, results, Try.results8, go_sem]
                exact ⟨_, rfl, by rw [HR.out]; first | exact rfl | (rw [hb5.out]; exact rfl) | (have := hb5.out; simp_all [isB]; done), (by first | exact HB3.out | exact below_drewN HB1.out _ | exact HB1.out | exact (below_alloc (below_alloc (Below.refl _ _))))⟩
            · skip
              have HP : ∀ w, Calls Try.prog 19 #[.agg #[.float .f32 a0.1, .float .f32 a0.2.1, .float .f32 a0.2.2], .agg #[.float .f32 a1.1, .float .f32 a1.2.1, .float .f32 a1.2.2]] w (Gives (isB (sameT a0 a1)) w) := fun w => SamePointI a0.1 a0.2.1 a0.2.2 a1.1 a1.2.1 a1.2.2 w
              have HN : ∀ w, Calls Try.prog 20 #[.float .f32 h0, .float .f32 h1] w (Drew' (isB (sameH h0 h1)) w) := fun w => SameNumberI h0 h1 w
              rw [b1] at HP
              rw [b4] at HN
              have HP2 : Aside _ := HP
              have HN2 : Aside _ := HN
              clear HP HN
              have HR : Aside (sameC k0 k1 a0 a1 s0 s1 f0 f1 h0 h1 z0 z1 = true) := by show sameC k0 k1 a0 a1 s0 s1 f0 f1 h0 h1 z0 z1 = true; unfold sameC; simp only [b0, b1, b2, b3, b4, b5, Bool.true_and, Bool.false_and, Bool.and_false, Bool.and_self]
              have hb5 : Aside (decide (z0 = z1) = true) := b5
              clear b5
              go_enter Try.func8, Try.ntmps8
              go_wp2_with (first | (go_at_call 19; refine (HP2.out _).mono ?_; rintro e w' ⟨_, rfl, eb, hb⟩; cases eb; obtain ⟨hc, hf⟩ := bcell hb; (try simp at hc hf); have hs := hb.size; (try simp at hs); (try (have hz0 : w.heap.size < w'.heap.size := (by omega))); (try (have hz1 : w.heap.size + 1 < w'.heap.size := (by omega))); have HB1 : Aside (Below w.heap.size w w') := below_step hb (below_alloc (below_alloc (Below.refl _ _))); clear hb) | (go_at_call 20; refine (HN2.out _).mono ?_; rintro e w'' ⟨_, m, rfl, eb, rfl⟩; cases eb) | (go_at_call 21; refine (eqI2 _ _ z0 z1 _ (A.out.1.below (below_drewN HB1.out _)) (A.out.2.1.below (below_drewN HB1.out _)) A.out.2.2).mono ?_; rintro e w3 ⟨_, rfl, eb, hb⟩; cases eb; have HB3 : Aside (Below w.heap.size w w3) := below_step hb (below_drewN HB1.out _); clear hb))
              all_goals
                simp [bodyPost, results, Try.results8, go_sem]
                exact ⟨_, rfl, by rw [HR.out]; first | exact rfl | (rw [hb5.out]; exact rfl) | (have := hb5.out; simp_all [isB]; done), (by first | exact HB3.out | exact below_drewN HB1.out _ | exact HB1.out | exact (below_alloc (below_alloc (Below.refl _ _))))⟩
--## d
end Go.Proofs.Ytpainjecdolgiaa
