/-
  Pairs: means by a rule, as the program makes them. Nothing of the program.
-/
import Derived.Test.YtblpfjjnlfjloaaM33
namespace Go.Proofs.Ytblpfjjnlfjloaa

abbrev Tab := Nat → Nat → Fr
/-- The token that moves by a face; ch: who moves where both can. -/
def movP (ch : Tab → Nat → Nat → Nat → Nat) (T : Tab) (s x y face : Nat) : Option Nat :=
  if x + face ≤ s then (if y + face ≤ s then some (ch T x y face) else some 0) else if y + face ≤ s then some 1 else none
def behP (T : Tab) (x y tok face : Nat) : Fr := if tok = 0 then T (x + face) y else T x (y + face)
/-- The means behind the first k faces by which one moves. -/
def behL (ch : Tab → Nat → Nat → Nat → Nat) (T : Tab) (s x y : Nat) : Nat → List Fr
  | 0 => []
  | k + 1 => match movP ch T s x y (k + 1) with
    | some tok => behL ch T s x y k ++ [behP T x y tok (k + 1)]
    | none => behL ch T s x y k
theorem behL_len (ch : Tab → Nat → Nat → Nat → Nat) (T : Tab) (s x y : Nat) : ∀ k, (behL ch T s x y k).length ≤ k
  | 0 => by simp [behL]
  | k + 1 => by
    have := behL_len ch T s x y k
    unfold behL
    cases movP ch T s x y (k + 1) with
    | none => simp only; omega
    | some tok => simp only [List.length_append, List.length_singleton]; omega
/-- The sum that a mean is made of. -/
def totP (ch : Tab → Nat → Nat → Nat → Nat) (T : Tab) (s f x y : Nat) : Fr := sumF (redF f 1) (behL ch T s x y f)
def meanP (ch : Tab → Nat → Nat → Nat → Nat) (T : Tab) (s f x y : Nat) : Fr :=
  if x = s ∧ y = s then redF 0 1 else redF (totP ch T s f x y).1 ((totP ch T s f x y).2 * (behL ch T s x y f).length)
def okMean (ch : Tab → Nat → Nat → Nat → Nat) (T : Tab) (s f x y : Nat) : Bool :=
  if x = s ∧ y = s then true else okSum (redF f 1) (behL ch T s x y f) && decide ((totP ch T s f x y).1 ≤ 1000000000000000) && decide (1 ≤ (totP ch T s f x y).2 * (behL ch T s x y f).length) && decide ((totP ch T s f x y).2 * (behL ch T s x y f).length ≤ 1000000000000000)
/-- A table as far as it is made, the squares (x, y) next. -/
def partT (T : Tab) (s x y : Nat) : Tab := fun u v => if u ≤ s ∧ v ≤ s ∧ (x < u ∨ u = x ∧ y < v) then T u v else (0, 0)
/-- A whole table. -/
def allT (T : Tab) (s : Nat) : Tab := fun u v => if u ≤ s ∧ v ≤ s then T u v else (0, 0)
def setT (T : Tab) (x y : Nat) (p : Fr) : Tab := fun u v => if u = x ∧ v = y then p else T u v
theorem partT_start (T : Tab) (s : Nat) : partT T s s s = fun _ _ => (0, 0) := by
  funext u v
  unfold partT
  rw [if_neg (by omega)]
theorem partT_next (T : Tab) {s x y : Nat} (hx : x ≤ s) (hy : y + 1 ≤ s) : setT (partT T s x (y + 1)) x (y + 1) (T x (y + 1)) = partT T s x y := by
  funext u v
  unfold setT partT
  by_cases h : u = x ∧ v = y + 1
  · obtain ⟨rfl, rfl⟩ := h
    rw [if_pos ⟨rfl, rfl⟩, if_pos (by omega)]
  · rw [if_neg h]
    by_cases h2 : u ≤ s ∧ v ≤ s ∧ (x < u ∨ u = x ∧ y + 1 < v)
    · rw [if_pos h2, if_pos (by omega)]
    · rw [if_neg h2, if_neg (by omega)]
theorem partT_row (T : Tab) {s x : Nat} (hx : x + 1 ≤ s) : setT (partT T s (x + 1) 0) (x + 1) 0 (T (x + 1) 0) = partT T s x s := by
  funext u v
  unfold setT partT
  by_cases h : u = x + 1 ∧ v = 0
  · obtain ⟨rfl, rfl⟩ := h
    rw [if_pos ⟨rfl, rfl⟩, if_pos (by omega)]
  · rw [if_neg h]
    by_cases h2 : u ≤ s ∧ v ≤ s ∧ (x + 1 < u ∨ u = x + 1 ∧ 0 < v)
    · rw [if_pos h2, if_pos (by omega)]
    · rw [if_neg h2, if_neg (by omega)]
theorem partT_end (T : Tab) (s : Nat) : setT (partT T s 0 0) 0 0 (T 0 0) = allT T s := by
  funext u v
  unfold setT partT allT
  by_cases h : u = 0 ∧ v = 0
  · obtain ⟨rfl, rfl⟩ := h
    rw [if_pos ⟨rfl, rfl⟩, if_pos (by omega)]
  · rw [if_neg h]
    by_cases h2 : u ≤ s ∧ v ≤ s
    · rw [if_pos h2, if_pos (by omega)]
    · rw [if_neg h2, if_neg (by omega)]
/-- The table when k rows are made and j of the next one. -/
def tabAt (T : Tab) (s k j : Nat) : Tab := if s < k then allT T s else if j ≤ s then partT T s (s - k) (s - j) else if k < s then partT T s (s - k - 1) s else allT T s
theorem tabAt_start (T : Tab) (s : Nat) : tabAt T s 0 0 = fun _ _ => (0, 0) := by
  unfold tabAt
  rw [if_neg (by omega), if_pos (by omega)]
  exact partT_start T s
theorem tabAt_in (T : Tab) {s k j : Nat} (hk : k ≤ s) (hj : j ≤ s) : tabAt T s k j = partT T s (s - k) (s - j) := by
  unfold tabAt
  rw [if_neg (by omega), if_pos hj]
theorem tabAt_row (T : Tab) {s k : Nat} (hk : k ≤ s) : tabAt T s k (s + 1) = tabAt T s (k + 1) 0 := by
  unfold tabAt
  rw [if_neg (by omega), if_neg (by omega)]
  by_cases h : k < s
  · rw [if_pos h, if_neg (by omega), if_pos (by omega), Nat.sub_sub, Nat.sub_zero]
  · rw [if_neg h, if_pos (by omega)]
theorem tabAt_end (T : Tab) (s : Nat) : tabAt T s (s + 1) 0 = allT T s := by
  unfold tabAt
  rw [if_pos (by omega)]
theorem tabAt_step (T : Tab) {s k j : Nat} (hk : k ≤ s) (hj : j ≤ s) : setT (partT T s (s - k) (s - j)) (s - k) (s - j) (T (s - k) (s - j)) = tabAt T s k (j + 1) := by
  unfold tabAt
  rw [if_neg (by omega)]
  by_cases h1 : j + 1 ≤ s
  · rw [if_pos h1]
    have e := partT_next T (s := s) (x := s - k) (y := s - (j + 1)) (by omega) (by omega)
    rw [show s - (j + 1) + 1 = s - j by omega] at e
    exact e
  · rw [if_neg h1, show s - j = 0 by omega]
    by_cases h2 : k < s
    · rw [if_pos h2]
      have e := partT_row T (s := s) (x := s - k - 1) (by omega)
      rw [show s - k - 1 + 1 = s - k by omega] at e
      exact e
    · rw [if_neg h2, show s - k = 0 by omega]
      exact partT_end T s
theorem partT_small {T : Tab} {s : Nat} (h : ∀ u v, u ≤ s → v ≤ s → (T u v).1 ≤ 10000000 ∧ (T u v).2 ≤ 10000000) (x y : Nat) : ∀ u v, (partT T s x y u v).1 ≤ 10000000 ∧ (partT T s x y u v).2 ≤ 10000000 := by
  intro u v
  unfold partT
  split
  next hc => exact h u v hc.1 hc.2.1
  next => exact ⟨by simp, by simp⟩
end Go.Proofs.Ytblpfjjnlfjloaa
