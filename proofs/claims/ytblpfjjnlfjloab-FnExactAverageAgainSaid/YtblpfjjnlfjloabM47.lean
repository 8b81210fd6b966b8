/-
  Lists of throws of one die that is thrown again: how many have each total, as both sides write their rows. Plain mathematics.
-/
import Derived.Test.YtblpfjjnlfjloabM43
namespace Go.Proofs.Ytblpfjjnlfjloab

/-- The program's row: r numbers of greatest faces from the greatest down are written; with m faces of the next. -/
def pIn (base : Nat → Nat) (f g r : Nat) : Nat → Nat → Nat
  | 0, s => base s
  | m + 1, s => if s = (g - r) * f + (m + 1) then f ^ r else pIn base f g r m s
def pOut (f g : Nat) : Nat → Nat → Nat
  | 0, s => if s = (g + 1) * f then 1 else 0
  | r + 1, s => pIn (pOut f g r) f g r (f - 1) s
/-- The model's row. -/
def mIn (base : Nat → Nat) (f g k : Nat) : Nat → Nat → Nat
  | 0, s => base s
  | m + 1, s => if (m + 1 < f ∨ k = g) ∧ s = k * f + (m + 1) then mIn base f g k m s + f ^ (g - k) else mIn base f g k m s
def mOut (f g : Nat) : Nat → Nat → Nat
  | 0, _ => 0
  | k + 1, s => mIn (mOut f g k) f g k f s
theorem again_same : ∀ f, f ≤ 12 → ∀ g, g ≤ 6 → ∀ s, s ≤ 84 → 1 ≤ f → pOut f g (g + 1) s = mOut f g (g + 1) s := by decide +kernel
theorem again_sum : ∀ f, f ≤ 12 → ∀ g, g ≤ 6 → 1 ≤ f → sumD (mOut f g (g + 1)) ((g + 1) * f + 1) = f ^ (g + 1) := by decide +kernel
theorem mIn_le (base : Nat → Nat) (f g k : Nat) (hf1 : 1 ≤ f) (s : Nat) : ∀ m, mIn base f g k m s ≤ base s + m * f ^ g
  | 0 => by simp [mIn]
  | m + 1 => by
    have ih := mIn_le base f g k hf1 s m
    have hp : f ^ (g - k) ≤ f ^ g := Nat.pow_le_pow_right hf1 (Nat.sub_le _ _)
    unfold mIn
    rw [Nat.add_mul]
    split <;> omega
theorem mOut_le (f g : Nat) (hf1 : 1 ≤ f) (s : Nat) : ∀ k, mOut f g k s ≤ k * (f * f ^ g)
  | 0 => by simp [mOut]
  | k + 1 => by
    have ih := mOut_le f g hf1 s k
    have h := mIn_le (mOut f g k) f g k hf1 s f
    unfold mOut
    rw [Nat.add_mul]
    omega
end Go.Proofs.Ytblpfjjnlfjloab
