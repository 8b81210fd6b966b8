/-
  Pairs: fractions of natural numbers in lowest terms, and sums of them. Nothing of the program.
-/
import Derived.Below
namespace Go.Proofs.Ytblpfjjnlfjloaa

abbrev Fr := Nat × Nat
def redF (x y : Nat) : Fr := (x / Nat.gcd x y, y / Nat.gcd x y)
def addF (p q : Fr) : Fr := redF (p.1 * q.2 + q.1 * p.2) (p.2 * q.2)
/-- No number met in a sum of two is great. -/
def okAdd (p q : Fr) : Bool := decide (p.1 * q.2 ≤ 1000000000000000) && decide (q.1 * p.2 ≤ 1000000000000000) && decide (1 ≤ p.2 * q.2) && decide (p.2 * q.2 ≤ 1000000000000000)
theorem okAdd_iff {p q : Fr} : okAdd p q = true ↔ p.1 * q.2 ≤ 1000000000000000 ∧ q.1 * p.2 ≤ 1000000000000000 ∧ 1 ≤ p.2 * q.2 ∧ p.2 * q.2 ≤ 1000000000000000 := by
  simp only [okAdd, Bool.and_eq_true, decide_eq_true_eq, and_assoc]
def sumF (p : Fr) : List Fr → Fr
  | [] => p
  | q :: l => sumF (addF p q) l
def okSum (p : Fr) : List Fr → Bool
  | [] => true
  | q :: l => okAdd p q && okSum (addF p q) l
theorem redF_le (x y : Nat) : (redF x y).1 ≤ x ∧ (redF x y).2 ≤ y := ⟨Nat.div_le_self _ _, Nat.div_le_self _ _⟩
theorem redF_pos {x y : Nat} (h : 1 ≤ y) : 1 ≤ (redF x y).2 := by
  have hg := Nat.gcd_pos_of_pos_right x (show 0 < y by omega)
  exact (Nat.le_div_iff_mul_le hg).2 (by rw [Nat.one_mul]; exact Nat.le_of_dvd (by omega) (Nat.gcd_dvd_right x y))
/-- The fraction behind the first k of a list, and what is left. -/
def atF (p : Fr) (l : List Fr) (k : Nat) : Fr := sumF p (l.take k)
theorem sumF_append (p : Fr) (l : List Fr) (q : Fr) : sumF p (l ++ [q]) = addF (sumF p l) q := by
  induction l generalizing p with
  | nil => rfl
  | cons a l ih => exact ih (addF p a)
theorem atF_succ (p : Fr) (l : List Fr) {k : Nat} (hk : k < l.length) : atF p l (k + 1) = addF (atF p l k) l[k] := by
  unfold atF
  rw [List.take_succ_eq_append_getElem hk, sumF_append]
theorem okSum_at (p : Fr) : ∀ (l : List Fr), okSum p l = true → ∀ k (hk : k < l.length), okAdd (atF p l k) l[k] = true := by
  intro l
  induction l generalizing p with
  | nil => intro _ k hk; simp at hk
  | cons a l ih =>
    intro h k hk
    simp only [okSum, Bool.and_eq_true] at h
    cases k with
    | zero => exact h.1
    | succ k => exact ih (addF p a) h.2 k (by simpa using hk)
end Go.Proofs.Ytblpfjjnlfjloaa
