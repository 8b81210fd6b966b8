/-
  Pairs: plain mathematics of the squares that come.
-/
import Derived.Test.YtknclgfjoajldabM31
namespace Go.Proofs.Ytknclgfjoajldab

def inR (s a b u v : Nat) : Prop := a ≤ u ∧ u ≤ s ∧ b ≤ v ∧ v ≤ s
instance (s a b u v : Nat) : Decidable (inR s a b u v) := inferInstanceAs (Decidable (_ ∧ _))
/-- What a set holds before the squares (k, j) are looked at. -/
def Met (s a b : Nat) (U : Nat → Nat → Bool) (k j : Nat) : Prop :=
  (∀ u v, U u v = true → inR s a b u v) ∧
  ∀ u v, inR s a b u v → ((u = a ∧ v = b) ∨ (a < u ∧ (u - 1 < k ∨ u - 1 = k ∧ v < j)) ∨ (b < v ∧ (u < k ∨ u = k ∧ v - 1 < j))) → U u v = true
theorem Met.start {s a b : Nat} (ha : a ≤ s) (hb : b ≤ s) : Met s a b (oneS a b) 0 0 := by
  refine ⟨fun u v h => ?_, fun u v h h2 => ?_⟩
  · simp only [oneS, Bool.and_eq_true, beq_iff_eq] at h
    unfold inR; omega
  · rcases h2 with ⟨rfl, rfl⟩ | h2 | h2
    · simp [oneS]
    · omega
    · omega
theorem Met.here {s a b k j : Nat} {U : Nat → Nat → Bool} (h : Met s a b U k j) : U k j = decide (inR s a b k j) := by
  by_cases hr : inR s a b k j
  · rw [decide_eq_true hr]
    apply h.2 k j hr
    unfold inR at hr
    by_cases h1 : k = a
    · by_cases h2 : j = b
      · exact .inl ⟨h1, h2⟩
      · exact .inr (.inr ⟨by omega, .inr ⟨rfl, by omega⟩⟩)
    · exact .inr (.inl ⟨by omega, .inl (by omega)⟩)
  · rw [decide_eq_false hr]
    cases hU : U k j
    · rfl
    · exact absurd (h.1 k j hU) hr
theorem Met.row {s a b k : Nat} {U : Nat → Nat → Bool} (hs : s ≤ 6) (h : Met s a b U k 7) : Met s a b U (k + 1) 0 := by
  refine ⟨h.1, fun u v hr h2 => h.2 u v hr ?_⟩
  unfold inR at hr
  omega
theorem Met.skip {s a b k j : Nat} {U : Nat → Nat → Bool} (h : Met s a b U k j) (hn : ¬ inR s a b k j) : Met s a b U k (j + 1) := by
  refine ⟨h.1, fun u v hr h2 => h.2 u v hr ?_⟩
  unfold inR at hr hn
  omega
/-- While faces go on from (k, j), i of them by now. -/
def MetF (s a b : Nat) (U : Nat → Nat → Bool) (k j i : Nat) : Prop := Met s a b U k j ∧ (1 ≤ i → ∀ u v, leads s k j 1 u v = true → U u v = true)
theorem MetF.start {s a b k j : Nat} {U : Nat → Nat → Bool} (h : Met s a b U k j) : MetF s a b U k j 0 := ⟨h, fun h => by omega⟩
theorem MetF.step {s a b k j i : Nat} {U : Nat → Nat → Bool} (h : MetF s a b U k j i) (hr : inR s a b k j) : MetF s a b (fun u v => U u v || leads s k j (i + 1) u v) k j (i + 1) := by
  refine ⟨⟨fun u v hU => ?_, fun u v h1 h2 => ?_⟩, fun _ u v hl => ?_⟩
  · rcases Bool.or_eq_true _ _ ▸ hU with hU | hU
    · exact h.1.1 u v hU
    · unfold inR at hr ⊢
      unfold leads at hU
      split at hU
      · simp only [Bool.or_eq_true, Bool.and_eq_true, decide_eq_true_eq, beq_iff_eq] at hU
        omega
      · simp only [Bool.and_eq_true, beq_iff_eq] at hU
        omega
  · show (U u v || _) = true
    rw [h.1.2 u v h1 h2]; rfl
  · by_cases hi : 1 ≤ i
    · show (U u v || _) = true
      rw [h.2 hi u v hl]; rfl
    · obtain rfl : i = 0 := by omega
      simp only [Nat.zero_add, hl, Bool.or_true]
theorem MetF.done {s a b k j i : Nat} {U : Nat → Nat → Bool} (h : MetF s a b U k j i) (hi : 1 ≤ i) : Met s a b U k (j + 1) := by
  refine ⟨h.1.1, fun u v hr h2 => ?_⟩
  have hl := h.2 hi u v
  by_cases h3 : u = k + 1 ∧ v = j
  · apply hl
    obtain ⟨rfl, rfl⟩ := h3
    unfold inR at hr
    unfold leads
    rw [if_pos (by omega)]
    simp; omega
  · by_cases h4 : u = k ∧ v = j + 1
    · apply hl
      obtain ⟨rfl, rfl⟩ := h4
      unfold inR at hr
      unfold leads
      rw [if_pos (by omega)]
      simp; omega
    · apply h.1.2 u v hr
      omega
/-- How many of the squares that come lie before (k, j), m in each row. -/
def cntS (s a b k j : Nat) : Nat := (min k (s + 1) - a) * (s + 1 - b) + (if a ≤ k ∧ k ≤ s then min j (s + 1) - b else 0)
theorem cntS_zero (s a b : Nat) : cntS s a b 0 0 = 0 := by
  unfold cntS
  simp
theorem cntS_row {s a b k : Nat} (hs : s ≤ 6) (ha : a ≤ s) : cntS s a b k 7 = cntS s a b (k + 1) 0 := by
  unfold cntS
  have h7 : min 7 (s + 1) = s + 1 := by omega
  have h0 : min 0 (s + 1) - b = 0 := by omega
  rw [h7, h0]
  by_cases h : a ≤ k ∧ k ≤ s
  · rw [if_pos h, show min (k + 1) (s + 1) - a = (min k (s + 1) - a) + 1 by omega, Nat.add_mul]
    simp
  · rw [if_neg h, show min (k + 1) (s + 1) - a = min k (s + 1) - a by omega]
    simp
theorem cntS_skip {s a b k j : Nat} (hn : ¬ inR s a b k j) : cntS s a b k (j + 1) = cntS s a b k j := by
  unfold cntS
  unfold inR at hn
  by_cases h : a ≤ k ∧ k ≤ s
  · rw [if_pos h, if_pos h]
    omega
  · rw [if_neg h, if_neg h]
theorem cntS_in {s a b k j : Nat} (h : inR s a b k j) : cntS s a b k (j + 1) = cntS s a b k j + 1 ∧ cntS s a b k j = (k - a) * (s + 1 - b) + (j - b) ∧ a + cntS s a b k j / (s + 1 - b) = k ∧ b + cntS s a b k j % (s + 1 - b) = j := by
  unfold inR at h
  have h1 : cntS s a b k j = (k - a) * (s + 1 - b) + (j - b) := by
    unfold cntS
    rw [if_pos (by omega), show min k (s + 1) = k by omega, show min j (s + 1) = j by omega]
  have h2 : cntS s a b k (j + 1) = (k - a) * (s + 1 - b) + (j + 1 - b) := by
    unfold cntS
    rw [if_pos (by omega), show min k (s + 1) = k by omega, show min (j + 1) (s + 1) = j + 1 by omega]
  refine ⟨by omega, h1, ?_, ?_⟩
  · rw [h1, Nat.mul_comm, Nat.mul_add_div (by omega), Nat.div_eq_of_lt (by omega)]; omega
  · rw [h1, Nat.mul_comm, Nat.mul_add_mod, Nat.mod_eq_of_lt (by omega)]; omega
theorem cntS_all {s a b : Nat} (hs : s ≤ 6) : cntS s a b 7 0 = (s + 1 - a) * (s + 1 - b) := by
  unfold cntS
  rw [if_neg (by omega), show min 7 (s + 1) = s + 1 by omega]
  rfl
theorem cntS_le {s a b k j : Nat} (hs : s ≤ 6) : cntS s a b k j ≤ 56 := by
  unfold cntS
  have h1 : (min k (s + 1) - a) * (s + 1 - b) ≤ 7 * 7 := Nat.mul_le_mul (by omega) (by omega)
  split <;> omega
/-- The squares of both, the y-th ones. -/
def stateF (s a b : Nat) (y j : Nat) : Int := if j = 0 then ((a + y / (s + 1 - b) : Nat) : Int) else ((b + y % (s + 1 - b) : Nat) : Int)
end Go.Proofs.Ytknclgfjoajldab
