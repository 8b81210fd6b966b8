/-
  Dice: words of both sides.
-/
import Derived.Test.YtblpfjjnlfjloabC6a
import Derived.Test.YtblpfjjnlfjloabM42
namespace Go.Proofs.Ytblpfjjnlfjloab
open Go.RowKit

theorem pow_12 {d f : Nat} (hd : d ≤ 8) (hf : f ≤ 12) (hf1 : 1 ≤ f) : f ^ d ≤ 429981696 := by
  calc f ^ d ≤ f ^ 8 := Nat.pow_le_pow_right (by omega) hd
    _ ≤ 12 ^ 8 := Nat.pow_le_pow_left hf 8
    _ = 429981696 := by decide
theorem kf97 {f k : Nat} (hf : f ≤ 12) (hk : k ≤ 8) : k * f + 1 ≤ 97 := by have := Nat.mul_le_mul hk hf; omega
def keptB (d f k : Int) : Bool := cupB d f && decide (1 ≤ k ∧ k ≤ d)
theorem keptB_iff {d f k : Int} : keptB d f k = true ↔ (1 ≤ d ∧ d ≤ 8 ∧ 1 ≤ f ∧ f ≤ 12) ∧ 1 ≤ k ∧ k ≤ d := by simp [keptB, cupB_iff]
theorem keptB_self (d f : Int) : keptB d f d = cupB d f := by
  rw [Bool.eq_iff_iff, keptB_iff, cupB_iff]; omega
theorem keptB_nat {d f k : Int} (h : keptB d f k = true) : ∃ m n q : Nat, d = m ∧ f = n ∧ k = q ∧ 1 ≤ m ∧ m ≤ 8 ∧ 1 ≤ n ∧ n ≤ 12 ∧ 1 ≤ q ∧ q ≤ m := by
  have := keptB_iff.1 h
  exact ⟨d.toNat, f.toNat, k.toNat, by omega, by omega, by omega, by omega, by omega, by omega, by omega, by omega, by omega⟩
end Go.Proofs.Ytblpfjjnlfjloab
