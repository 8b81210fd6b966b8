/-
  The greatest number of a row, and where it stands. Plain mathematics.
-/
import Derived.Test.YtblpfjjnlfjloabM43
namespace Go.Proofs.Ytblpfjjnlfjloab

def mxN (K : Nat → Nat) : Nat → Nat
  | 0 => 0
  | k + 1 => max (mxN K k) (K k)
theorem mxN_ge (K : Nat → Nat) : ∀ n i, i < n → K i ≤ mxN K n
  | n + 1, i, h => by
    show _ ≤ max _ _
    by_cases e : i = n
    · subst e; omega
    · have := mxN_ge K n i (by omega); omega
theorem mxN_le (K : Nat → Nat) (M : Nat) : ∀ n, (∀ i, i < n → K i ≤ M) → mxN K n ≤ M
  | 0, _ => Nat.zero_le _
  | n + 1, h => Nat.max_le.2 ⟨mxN_le K M n (fun i hi => h i (by omega)), h n (by omega)⟩
/-- where a number stands below k -/
def stI (K : Nat → Nat) (M k : Nat) : List Nat := (List.range k).filter fun i => K i == M
theorem stI_snoc (K : Nat → Nat) (M k : Nat) : stI K M (k + 1) = if K k = M then stI K M k ++ [k] else stI K M k := by
  unfold stI
  rw [List.range_succ, List.filter_append]
  by_cases h : K k = M
  · rw [if_pos h]; simp [h]
  · rw [if_neg h]; simp [h]
theorem stI_len (K : Nat → Nat) (M k : Nat) : (stI K M k).length ≤ k := by
  have := List.length_filter_le (fun i => K i == M) (List.range k)
  simpa [stI] using this
theorem stI_none (K : Nat → Nat) (M k : Nat) (h : ∀ i, i < k → K i ≠ M) : stI K M k = [] := by
  unfold stI
  rw [List.filter_eq_nil_iff]
  intro i hi
  simpa using h i (by simpa using hi)
/-- as the model collects them -/
def ouI (K : Nat → Nat) (k : Nat) : List Nat := if mxN K k = 0 then [] else stI K (mxN K k) k
theorem ouI_more (K : Nat → Nat) (k : Nat) (h : mxN K k < K k) : ouI K (k + 1) = [k] ∧ mxN K (k + 1) = K k := by
  have hm : mxN K (k + 1) = K k := by show max _ _ = _; omega
  refine ⟨?_, hm⟩
  unfold ouI
  rw [hm, if_neg (by omega), stI_snoc, if_pos rfl, stI_none]
  · rfl
  · intro i hi
    have := mxN_ge K k i hi
    omega
theorem ouI_same (K : Nat → Nat) (k : Nat) (h : K k = mxN K k) (h0 : 0 < K k) : ouI K (k + 1) = ouI K k ++ [k] ∧ mxN K (k + 1) = mxN K k := by
  have hm : mxN K (k + 1) = mxN K k := by show max _ _ = _; omega
  refine ⟨?_, hm⟩
  unfold ouI
  rw [hm, if_neg (by omega), if_neg (by omega), stI_snoc, if_pos h]
theorem ouI_less (K : Nat → Nat) (k : Nat) (h : K k ≤ mxN K k) (h0 : K k ≠ mxN K k ∨ K k = 0) : ouI K (k + 1) = ouI K k ∧ mxN K (k + 1) = mxN K k := by
  have hm : mxN K (k + 1) = mxN K k := by show max _ _ = _; omega
  refine ⟨?_, hm⟩
  unfold ouI
  rw [hm]
  by_cases hz : mxN K k = 0
  · rw [if_pos hz, if_pos hz]
  · rw [if_neg hz, if_neg hz, stI_snoc, if_neg (by omega)]
end Go.Proofs.Ytblpfjjnlfjloab
