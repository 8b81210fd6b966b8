/-
  Fractions compared by whole parts and remainders. Nothing of the program.
-/
import Derived.Test.YtblpfjjnlfjloaaM36
namespace Go.Proofs.Ytblpfjjnlfjloaa

theorem less_parts {a b c d : Nat} (hb : 1 ≤ b) (hd : 1 ≤ d) : a * d = b * d * (a / b) + (a % b) * d ∧ c * b = b * d * (c / d) + (c % d) * b ∧ (a % b) * d < b * d ∧ (c % d) * b < b * d := by
  have h1 := Nat.div_add_mod a b
  have h2 := Nat.div_add_mod c d
  refine ⟨?_, ?_, Nat.mul_lt_mul_of_pos_right (Nat.mod_lt _ hb) hd, ?_⟩
  · calc a * d = (b * (a / b) + a % b) * d := by rw [h1]
      _ = b * d * (a / b) + (a % b) * d := by rw [Nat.add_mul, Nat.mul_right_comm]
  · calc c * b = (d * (c / d) + c % d) * b := by rw [h2]
      _ = b * d * (c / d) + (c % d) * b := by rw [Nat.add_mul, Nat.mul_right_comm, Nat.mul_comm d b]
  · rw [Nat.mul_comm b d]; exact Nat.mul_lt_mul_of_pos_right (Nat.mod_lt _ hd) hb
theorem less_ne {a b c d : Nat} (hb : 1 ≤ b) (hd : 1 ≤ d) (h : a / b ≠ c / d) : (a * d < c * b) = (a / b < c / d) := by
  obtain ⟨e1, e2, l1, l2⟩ := less_parts (a := a) (c := c) hb hd
  rw [e1, e2]
  refine propext ⟨fun hl => ?_, fun hl => ?_⟩
  · rcases Nat.lt_or_ge (a / b) (c / d) with g | g
    · exact g
    · have := Nat.mul_le_mul_left (b * d) (show c / d + 1 ≤ a / b by omega)
      rw [Nat.mul_add, Nat.mul_one] at this
      omega
  · have := Nat.mul_le_mul_left (b * d) (show a / b + 1 ≤ c / d by omega)
    rw [Nat.mul_add, Nat.mul_one] at this
    omega
theorem less_eq {a b c d : Nat} (hb : 1 ≤ b) (hd : 1 ≤ d) (h : a / b = c / d) : (a * d < c * b) = (a % b * d < c % d * b) := by
  obtain ⟨e1, e2, l1, l2⟩ := less_parts (a := a) (c := c) hb hd
  rw [e1, e2, h]
  exact propext ⟨fun _ => by omega, fun _ => by omega⟩
theorem less_left {c d b : Nat} (hb : 1 ≤ b) : (0 * d < c * b) = (0 < c) := by
  refine propext ⟨fun h => ?_, fun h => ?_⟩
  · rcases Nat.eq_zero_or_pos c with rfl | h1
    · simp at h
    · exact h1
  · have := Nat.mul_pos h hb; omega
theorem less_right {a d b : Nat} : (a * d < 0 * b) = False := by simp
theorem less_swap {r d r' b : Nat} : (r * d < r' * b) = (d * r < b * r') := by rw [Nat.mul_comm r d, Nat.mul_comm r' b]
end Go.Proofs.Ytblpfjjnlfjloaa
