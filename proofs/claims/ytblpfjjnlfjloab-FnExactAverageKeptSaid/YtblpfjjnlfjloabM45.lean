/-
  Sums of the greatest dice while they are added up. Plain mathematics.
-/
import Derived.Test.YtblpfjjnlfjloabM43
namespace Go.Proofs.Ytblpfjjnlfjloab

/-- What one number of dice with the greatest face adds. -/
def kpT (d f kept j s : Nat) : Nat := if min j kept * (f + 1) ≤ s then kq (d - j) f (kept - min j kept) (s - min j kept * (f + 1)) else 0
def kpS (d f kept k s : Nat) : Nat := sumD (fun j => bin d j * kpT d f kept j s) k
theorem kpS_all (d f kept s : Nat) : kpS d f kept (d + 1) s = kq d (f + 1) kept s := (kq_peel d f kept s).symm
theorem kpS_zero (d f kept s : Nat) : kpS d f kept 0 s = 0 := rfl
theorem kpS_le (d f kept s k : Nat) (h : k ≤ d + 1) : kpS d f kept k s ≤ (f + 1) ^ d := by
  have h1 := kq_le d (f + 1) kept s
  rw [← kpS_all] at h1
  refine Nat.le_trans ?_ h1
  unfold kpS
  obtain ⟨m, hm⟩ : ∃ m, d + 1 = k + m := ⟨d + 1 - k, by omega⟩
  rw [hm, sumD_app]
  exact Nat.le_add_right _ _
/-- With the first i sums of the others. -/
def kiS (d f kept k i s : Nat) : Nat := kpS d f kept k s + (if min k kept * (f + 1) ≤ s ∧ s - min k kept * (f + 1) < i then bin d k * kq (d - k) f (kept - min k kept) (s - min k kept * (f + 1)) else 0)
theorem kiS_zero (d f kept k s : Nat) : kiS d f kept k 0 s = kpS d f kept k s := by unfold kiS; rw [if_neg (by omega)]; rfl
theorem kiS_step (d f kept k i s : Nat) : kiS d f kept k (i + 1) s = if s = i + min k kept * (f + 1) then kiS d f kept k i s + bin d k * kq (d - k) f (kept - min k kept) i else kiS d f kept k i s := by
  unfold kiS
  by_cases h : s = i + min k kept * (f + 1)
  · rw [if_pos h, if_pos (by omega), if_neg (by omega), show s - min k kept * (f + 1) = i by omega]; omega
  · rw [if_neg h]
    by_cases h2 : min k kept * (f + 1) ≤ s ∧ s - min k kept * (f + 1) < i
    · rw [if_pos h2, if_pos (by omega)]
    · rw [if_neg h2, if_neg (by omega)]
theorem kiS_done (d f kept k n s : Nat) (h : ∀ i, n ≤ i → kq (d - k) f (kept - min k kept) i = 0) : kiS d f kept k n s = kpS d f kept (k + 1) s := by
  unfold kiS
  show _ = kpS d f kept k s + bin d k * kpT d f kept k s
  congr 1
  unfold kpT
  by_cases h1 : min k kept * (f + 1) ≤ s
  · rw [if_pos h1]
    by_cases h2 : s - min k kept * (f + 1) < n
    · rw [if_pos ⟨h1, h2⟩]
    · rw [if_neg (by omega), h _ (by omega)]; rfl
  · rw [if_neg h1, if_neg (by omega)]; rfl
theorem kiS_le (d f kept k i s : Nat) (h : k ≤ d) : kiS d f kept k i s ≤ (f + 1) ^ d := by
  refine Nat.le_trans ?_ (kpS_le d f kept s (k + 1) (by omega))
  show _ ≤ kpS d f kept k s + bin d k * kpT d f kept k s
  unfold kiS
  refine Nat.add_le_add_left ?_ _
  unfold kpT
  by_cases h1 : min k kept * (f + 1) ≤ s
  · rw [if_pos h1]
    split <;> omega
  · rw [if_neg h1, if_neg (by omega)]; omega
theorem kp_room (f kept k : Nat) : (kept - min k kept) * f + min k kept * (f + 1) ≤ kept * (f + 1) := by
  obtain ⟨j, hj⟩ : ∃ j, kept = min k kept + j := ⟨kept - min k kept, by omega⟩
  generalize min k kept = c at *
  subst hj
  rw [Nat.add_sub_cancel_left, Nat.add_mul]
  have : j * f ≤ j * (f + 1) := Nat.mul_le_mul_left _ (by omega)
  omega
end Go.Proofs.Ytblpfjjnlfjloab
