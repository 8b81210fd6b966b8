/-
  The throws until each face has come: both sides' sums of fractions. Plain mathematics.
-/
import Derived.Test.YtblpfjjnlfjloacM33
namespace Go.Proofs.Ytblpfjjnlfjloac

def pF (f : Nat) : Nat → Fr
  | 0 => redF 0 1
  | j + 1 => addF (pF f j) (redF f (f - j))
def sF (f : Nat) : Nat → Fr
  | 0 => (0, 1)
  | k + 1 => redF ((sF f k).1 * (k + 1) + f * (sF f k).2) ((sF f k).2 * (k + 1))
theorem throws_same : ∀ f, f ≤ 12 → 1 ≤ f → pF f f = sF f f := by decide +kernel
theorem throws_ok : ∀ f, f ≤ 12 → ∀ j, j < f → okAdd (pF f j) (redF f (f - j)) = true := by decide +kernel
theorem throws_bd : ∀ f, f ≤ 12 → ∀ k, k ≤ f → (sF f k).1 ≤ 1000000000 ∧ (sF f k).2 ≤ 1000000000 ∧ 1 ≤ (sF f k).2 := by decide +kernel
end Go.Proofs.Ytblpfjjnlfjloac
