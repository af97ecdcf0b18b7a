/- Texts cut at blanks: plain lists of bytes. -/
import Derived.Lib.Split
import Derived.Lib.IndexBytes
namespace Go.Proofs.YtljpggeogiabgaaDoor
open Go.Lib
set_option linter.unusedSimpArgs false
set_option linter.unusedVariables false
/-- a text cut at all its blanks -/
def segs : List UInt8 → List (List UInt8)
  | [] => [[]]
  | c :: l => if c = 32 then [] :: segs l else match segs l with | [] => [[c]] | h :: t => (c :: h) :: t
def preS (cur : List UInt8) : List (List UInt8) → List (List UInt8)
  | [] => [cur]
  | h :: t => (cur ++ h) :: t
theorem segs_ne : ∀ l, segs l ≠ []
  | [] => by simp [segs]
  | c :: l => by
    rw [segs]; split
    · simp
    · split <;> simp
theorem preS_blank (cur l : List UInt8) : preS cur (segs (32 :: l)) = cur :: preS [] (segs l) := by
  rw [segs, if_pos rfl]
  cases h : segs l with
  | nil => exact absurd h (segs_ne l)
  | cons a t => simp [preS]
theorem preS_other (cur l : List UInt8) (c : UInt8) (hc : c ≠ 32) : preS cur (segs (c :: l)) = preS (cur ++ [c]) (segs l) := by
  rw [segs, if_neg hc]
  cases h : segs l with
  | nil => exact absurd h (segs_ne l)
  | cons a t => simp [preS]
theorem preS_end (cur : List UInt8) : preS cur (segs []) = [cur] := by simp [segs, preS]
theorem preS_nil (l : List UInt8) : preS [] (segs l) = segs l := by
  cases h : segs l with
  | nil => exact absurd h (segs_ne l)
  | cons a t => simp [preS]
theorem segs_index : ∀ l, (indexByte l 32 = -1 ∧ segs l = [l]) ∨ ∃ i : Nat, i < l.length ∧ indexByte l 32 = i ∧ segs l = l.take i :: segs (l.drop (i + 1))
  | [] => .inl ⟨rfl, rfl⟩
  | c :: l => by
    by_cases hc : c = 32
    · subst hc
      exact .inr ⟨0, by simp, by simp [indexByte], by simp [segs]⟩
    · have hb : (c == 32) = false := by simpa using hc
      rcases segs_index l with ⟨h1, h2⟩ | ⟨i, hi, h1, h2⟩
      · refine .inl ⟨by simp [indexByte, hb, h1], ?_⟩
        rw [segs, if_neg hc, h2]
      · refine .inr ⟨i + 1, by simp; omega, ?_, ?_⟩
        · rw [indexByte, hb, h1]
          have : ((i : Int) == -1) = false := by simp <;> omega
          simp [this]
        · rw [segs, if_neg hc, h2]; simp
theorem splitK_segs : ∀ (k : Nat) (l : List UInt8), (splitK [32] 0 k l).length = min (k + 1) (segs l).length ∧ ((segs l).length ≤ k + 1 → splitK [32] 0 k l = segs l) ∧ (splitK [32] 0 k l).take k = (segs l).take k
  | 0, l => by
    have h := segs_ne l
    refine ⟨?_, fun hl => ?_, by simp⟩
    · cases hs : segs l with
      | nil => exact absurd hs h
      | cons a t => simp [splitK]
    · rcases segs_index l with ⟨h1, h2⟩ | ⟨i, hi, h1, h2⟩
      · rw [h2]; rfl
      · rw [h2] at hl
        cases hs : segs (l.drop (i + 1)) with
        | nil => exact absurd hs (segs_ne _)
        | cons a t => rw [hs] at hl; simp at hl
  | k + 1, l => by
    rcases segs_index l with ⟨h1, h2⟩ | ⟨i, hi, h1, h2⟩
    · have e : splitK [32] 0 (k + 1) l = [l] := by
        unfold splitK; rw [index_one, h1]; rfl
      rw [e, h2]; simp
    · have hne : ((i : Int) == -1) = false := by simp <;> omega
      have e : splitK [32] 0 (k + 1) l = l.take i :: splitK [32] 0 k (l.drop (i + 1)) := by
        conv => lhs; unfold splitK
        rw [index_one, h1, hne]; simp
      obtain ⟨a1, a2, a3⟩ := splitK_segs k (l.drop (i + 1))
      rw [e, h2]
      refine ⟨by simp [a1] <;> omega, fun hl => ?_, by simp [a3]⟩
      rw [a2 (by simpa using hl)]
theorem segs_len (l : List UInt8) : (segs l).length ≤ l.length + 1 := by
  induction l with
  | nil => simp [segs]
  | cons c l ih =>
    rw [segs]; split
    · simpa using ih
    · split <;> simp_all <;> omega
/-- the pieces as strings -/
def segsB (s : ByteArray) : List ByteArray := (segs s.data.toList).map fun l => ⟨l.toArray⟩
theorem segsB_len (s : ByteArray) : (segsB s).length = (segs s.data.toList).length := by simp [segsB]
theorem ofData {s : ByteArray} {l : List UInt8} (h : s.data.toList = l) : s = ⟨l.toArray⟩ := by
  obtain ⟨⟨x⟩⟩ := s; subst h; rfl
def blank : ByteArray := ⟨#[32]⟩
/-- cut at most so often -/
theorem splitB_segs (s : ByteArray) (k : Nat) : (splitB blank 0 k s).length = min (k + 1) (segsB s).length ∧ ((segsB s).length ≤ k + 1 → splitB blank 0 k s = segsB s) ∧ (splitB blank 0 k s).take k = (segsB s).take k := by
  have h := splitB_data blank 0 k s
  have hb : blank.data.toList = [32] := rfl
  rw [hb] at h
  have e : splitB blank 0 k s = (splitK [32] 0 k s.data.toList).map fun l => ⟨l.toArray⟩ := by
    rw [← h, List.map_map]
    conv => lhs; rw [← List.map_id (splitB blank 0 k s)]
    apply List.map_congr_left
    intro x _
    exact ofData rfl
  obtain ⟨a1, a2, a3⟩ := splitK_segs k s.data.toList
  rw [e, segsB_len]
  refine ⟨by simp [a1], fun hl => by rw [a2 hl]; rfl, ?_⟩
  rw [← List.map_take, a3]; simp [segsB]
end Go.Proofs.YtljpggeogiabgaaDoor
