/-
  Plain mathematics of chapter 9: clues and puzzles. Nothing of the program.
-/
import Derived.Test.YtjngiinfpoappaaM1
namespace Go.Proofs.Ytjngiinfpoappaa

/-- Sizes of hidden boards. -/
def szB (q f : Int) : Bool := inB q 1 10 && inB f 1 8
/-- The kinds of clues, as a chain of tests. -/
def clB (q f k a b c : Int) : Bool :=
  if k = 0 then decide (a = 0) && decide (b = 0) && inB c 0 2
  else if k = 1 then inB a 0 q && inB b 1 f && inB c 0 q
  else if k = 2 then decide (a = 0) && decide (b = 0) && inB c 0 10
  else if k = 3 then decide (a = 0) && decide (b = 0) && inB c 0 10
  else if k = 4 then inB a 0 q && decide (b = 0) && inB c 0 1
  else if k = 5 then inB a 0 20 && inB b 1 f && inB c 0 q
  else false
/-- The least and the greatest numbers of a kind: of A, B and C. -/
def leB (k : Int) : Int := if k = 1 ∨ k = 5 then 1 else 0
def moA (q k : Int) : Int := if k = 1 ∨ k = 4 then q else if k = 5 then 20 else 0
def moB (f k : Int) : Int := if k = 1 ∨ k = 5 then f else 0
def moC (q k : Int) : Int := if k = 0 then 2 else if k = 1 ∨ k = 5 then q else if k = 4 then 1 else 10
theorem inB_zero (a : Int) : inB a 0 0 = decide (a = 0) := by
  rw [Bool.eq_iff_iff, inB_iff, decide_eq_true_eq]; omega
theorem clB_eq {q f k a b c : Int} (h0 : 0 ≤ k) (h5 : k ≤ 5) : clB q f k a b c = (inB a 0 (moA q k) && inB b (leB k) (moB f k) && inB c 0 (moC q k)) := by
  rcases (show k = 0 ∨ k = 1 ∨ k = 2 ∨ k = 3 ∨ k = 4 ∨ k = 5 by omega) with rfl | rfl | rfl | rfl | rfl | rfl <;> simp [clB, moA, moB, moC, leB, inB_zero]
theorem clB_out {q f k a b c : Int} (h : k < 0 ∨ 5 < k) : clB q f k a b c = false := by
  unfold clB
  rw [if_neg (by omega), if_neg (by omega), if_neg (by omega), if_neg (by omega), if_neg (by omega), if_neg (by omega)]
theorem clB_1 {q f a b c : Int} (h : clB q f 1 a b c = true) : (0 ≤ a ∧ a ≤ q) ∧ (1 ≤ b ∧ b ≤ f) := by
  have e : (inB a 0 q && inB b 1 f && inB c 0 q) = true := by simpa [clB] using h
  rw [Bool.and_eq_true, Bool.and_eq_true, inB_iff, inB_iff] at e
  exact e.1
theorem clB_4 {q f a b c : Int} (h : clB q f 4 a b c = true) : 0 ≤ a ∧ a ≤ q := by
  have e : (inB a 0 q && decide (b = 0) && inB c 0 1) = true := by simpa [clB] using h
  rw [Bool.and_eq_true, Bool.and_eq_true, inB_iff] at e
  exact e.1.1
theorem clB_5 {q f a b c : Int} (h : clB q f 5 a b c = true) : (0 ≤ a ∧ a ≤ 20) ∧ (1 ≤ b ∧ b ≤ f) := by
  have e : (inB a 0 20 && inB b 1 f && inB c 0 q) = true := by simpa [clB] using h
  rw [Bool.and_eq_true, Bool.and_eq_true, inB_iff, inB_iff] at e
  exact e.1
theorem clB_k {q f k a b c : Int} (h : clB q f k a b c = true) : 0 ≤ k ∧ k ≤ 5 := by
  rcases Classical.em (0 ≤ k ∧ k ≤ 5) with h1 | h1
  · exact h1
  · rw [clB_out (by omega)] at h; cases h
abbrev Cl := Int × Int × Int × Int
def clQ (q f : Int) (c : Cl) : Bool := clB q f c.1 c.2.1 c.2.2.1 c.2.2.2
/-- A puzzle. -/
def pzB (q f : Int) (L : List Cl) : Bool := szB q f && decide (L.length ≤ 6) && L.all (clQ q f)
theorem pzB_parts {q f : Int} {L : List Cl} (h : pzB q f L = true) : (1 ≤ q ∧ q ≤ 10) ∧ (1 ≤ f ∧ f ≤ 8) ∧ L.length ≤ 6 ∧ ∀ k (hk : k < L.length), clQ q f L[k] = true := by
  rw [pzB, szB, Bool.and_eq_true, Bool.and_eq_true, Bool.and_eq_true, inB_iff, inB_iff, decide_eq_true_eq, List.all_eq_true] at h
  exact ⟨h.1.1.1, h.1.1.2, h.1.2, fun k hk => h.2 _ (List.getElem_mem hk)⟩
end Go.Proofs.Ytjngiinfpoappaa
