/-
  One die more: a row of sums while it is written. Plain mathematics.
-/
import Derived.Test.YtblpfjjnlfjloabM42
namespace Go.Proofs.Ytblpfjjnlfjloab

theorem sumD_const (c : Nat) : ∀ n, sumD (fun _ => c) n = n * c
  | 0 => by simp [sumD]
  | n + 1 => by show sumD _ n + c = _; rw [sumD_const c n, Nat.add_mul]; omega
/-- what the first s sums have added -/
def ptS (K : Nat → Nat) (f s i : Nat) : Nat := sumD (fun a => if a + 1 ≤ i ∧ i - (a + 1) < s then K (i - (a + 1)) else 0) f
def nxS (K : Nat → Nat) (f s j i : Nat) : Nat := ptS K f s i + (if s < i ∧ i ≤ s + j then K s else 0)
theorem ptS_zero (K : Nat → Nat) (f i : Nat) : ptS K f 0 i = 0 := sumD_none _ _ fun _ _ => if_neg (by omega)
theorem nxS_zero (K : Nat → Nat) (f s i : Nat) : nxS K f s 0 i = ptS K f s i := by unfold nxS; rw [if_neg (by omega)]; rfl
theorem nxS_step (K : Nat → Nat) (f s j i : Nat) : nxS K f s (j + 1) i = if i = s + (j + 1) then nxS K f s j i + K s else nxS K f s j i := by
  unfold nxS
  by_cases h : i = s + (j + 1)
  · rw [if_pos h, if_pos (by omega), if_neg (by omega)]; omega
  · rw [if_neg h]
    by_cases h2 : s < i ∧ i ≤ s + j
    · rw [if_pos h2, if_pos (by omega)]
    · rw [if_neg h2, if_neg (by omega)]
theorem nxS_done (K : Nat → Nat) (f s i : Nat) : nxS K f s f i = ptS K f (s + 1) i := by
  unfold nxS ptS
  have e : ∀ a, a < f → (if a + 1 ≤ i ∧ i - (a + 1) < s + 1 then K (i - (a + 1)) else 0) = (if a + 1 ≤ i ∧ i - (a + 1) < s then K (i - (a + 1)) else 0) + (if a + 1 + s = i then K s else 0) := by
    intro a _
    by_cases h1 : a + 1 + s = i
    · rw [if_pos h1, if_pos (by omega), if_neg (by omega), show i - (a + 1) = s by omega]; omega
    · rw [if_neg h1]
      by_cases h2 : a + 1 ≤ i ∧ i - (a + 1) < s
      · rw [if_pos h2, if_pos (by omega)]; omega
      · rw [if_neg h2, if_neg (by omega)]
  rw [sumD_same _ _ _ e, sumD_add]
  congr 1
  by_cases h : s < i ∧ i ≤ s + f
  · rw [if_pos h, sumD_one _ (i - s - 1) f (by omega)]
    · rw [if_pos (by omega)]
    · intro a _ ha; rw [if_neg (by omega)]
  · rw [if_neg h]
    exact (sumD_none _ _ fun a ha => if_neg (by omega)).symm
theorem ptS_all (d f n : Nat) (h : d * f < n) (i : Nat) : ptS (cv d f) f n i = cv (d + 1) f i := by
  unfold ptS
  show _ = sumD (fun a => sh (a + 1) (cv d f) i) f
  refine sumD_same _ _ _ fun a _ => ?_
  unfold sh
  by_cases h1 : a + 1 ≤ i
  · rw [if_pos h1]
    by_cases h2 : i - (a + 1) < n
    · rw [if_pos ⟨h1, h2⟩]
    · rw [if_neg (by omega), cv_over f d _ (by omega)]
  · rw [if_neg h1, if_neg (by omega)]
theorem ptS_le (K : Nat → Nat) (M f s i : Nat) (h : ∀ j, K j ≤ M) : ptS K f s i ≤ f * M := by
  unfold ptS
  rw [← sumD_const]
  exact sumD_le _ _ _ fun a _ => by split
                                    · exact h _
                                    · omega
theorem nxS_le (K : Nat → Nat) (M f s j i : Nat) (h : ∀ j, K j ≤ M) : nxS K f s j i ≤ f * M + M := by
  unfold nxS
  have := ptS_le K M f s i h
  have := h s
  split <;> omega
end Go.Proofs.Ytblpfjjnlfjloab
