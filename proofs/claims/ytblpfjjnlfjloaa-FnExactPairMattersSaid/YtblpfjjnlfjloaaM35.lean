/-
  Pairs: fractions as the model adds and divides them. Nothing of the program.
-/
import Derived.Test.YtblpfjjnlfjloaaM33
namespace Go.Proofs.Ytblpfjjnlfjloaa

/-- The least common multiple as the model makes it. -/
def lcmS (b d : Nat) : Nat := b / Nat.gcd b d * d
def addS (p q : Fr) : Fr := redF (p.1 * (lcmS p.2 q.2 / p.2) + q.1 * (lcmS p.2 q.2 / q.2)) (lcmS p.2 q.2)
def okAddS (p q : Fr) : Bool := decide (1 ≤ p.2) && decide (1 ≤ q.2) && decide (p.2 ≤ 1000000000000000) && decide (q.2 ≤ 1000000000000000) && decide (1 ≤ lcmS p.2 q.2) && decide (lcmS p.2 q.2 ≤ 1000000000000000) && decide (p.1 * (lcmS p.2 q.2 / p.2) ≤ 1000000000000000) && decide (q.1 * (lcmS p.2 q.2 / q.2) ≤ 1000000000000000)
theorem okAddS_iff {p q : Fr} : okAddS p q = true ↔ 1 ≤ p.2 ∧ 1 ≤ q.2 ∧ p.2 ≤ 1000000000000000 ∧ q.2 ≤ 1000000000000000 ∧ 1 ≤ lcmS p.2 q.2 ∧ lcmS p.2 q.2 ≤ 1000000000000000 ∧ p.1 * (lcmS p.2 q.2 / p.2) ≤ 1000000000000000 ∧ q.1 * (lcmS p.2 q.2 / q.2) ≤ 1000000000000000 := by
  simp only [okAddS, Bool.and_eq_true, decide_eq_true_eq, and_assoc]
/-- A fraction divided by a number. -/
def overS (p : Fr) (n : Nat) : Fr := ((redF p.1 n).1, (redF p.1 n).2 * p.2)
end Go.Proofs.Ytblpfjjnlfjloaa
