/-
  Pairs: means by a rule, as the model makes them: by sums, from the greatest on. Nothing of the program.
-/
import Derived.Test.YtblpfjjnlfjloaaM34
import Derived.Test.YtblpfjjnlfjloaaM35
namespace Go.Proofs.Ytblpfjjnlfjloaa

def sumS (p : Fr) : List Fr → Fr
  | [] => p
  | q :: l => sumS (addS p q) l
theorem sumS_append (p : Fr) (l : List Fr) (q : Fr) : sumS p (l ++ [q]) = addS (sumS p l) q := by
  induction l generalizing p with
  | nil => rfl
  | cons a l ih => exact ih (addS p a)
def totS (ch : Tab → Nat → Nat → Nat → Nat) (T : Tab) (s f x y k : Nat) : Fr := sumS (f, 1) (behL ch T s x y k)
def meanS (ch : Tab → Nat → Nat → Nat → Nat) (T : Tab) (s f x y : Nat) : Fr := if x + y < 2 * s then overS (totS ch T s f x y f) (behL ch T s x y f).length else (0, 1)
/-- Each sum on the way is small. -/
def okTotS (ch : Tab → Nat → Nat → Nat → Nat) (T : Tab) (s f x y : Nat) : Nat → Bool
  | 0 => true
  | k + 1 => okTotS ch T s f x y k && match movP ch T s x y (k + 1) with
    | some tok => okAddS (totS ch T s f x y k) (behP T x y tok (k + 1))
    | none => true
def okMeanS (ch : Tab → Nat → Nat → Nat → Nat) (T : Tab) (s f x y : Nat) : Bool :=
  okTotS ch T s f x y f && (decide (2 * s ≤ x + y) || (decide ((totS ch T s f x y f).1 ≤ 1000000000000000) && decide (1 ≤ (behL ch T s x y f).length) && decide ((behL ch T s x y f).length * (totS ch T s f x y f).2 ≤ 1000000000000000)))
theorem okTotS_at {ch : Tab → Nat → Nat → Nat → Nat} {T : Tab} {s f x y : Nat} : ∀ {n k tok : Nat}, okTotS ch T s f x y n = true → k < n → movP ch T s x y (k + 1) = some tok → okAddS (totS ch T s f x y k) (behP T x y tok (k + 1)) = true
  | n + 1, k, tok, h, hk, hm => by
    simp only [okTotS, Bool.and_eq_true] at h
    by_cases e : k = n
    · subst e
      have := h.2
      rw [hm] at this
      exact this
    · exact okTotS_at h.1 (by omega) hm
theorem totS_some {ch : Tab → Nat → Nat → Nat → Nat} {T : Tab} {s f x y k tok : Nat} (h : movP ch T s x y (k + 1) = some tok) : totS ch T s f x y (k + 1) = addS (totS ch T s f x y k) (behP T x y tok (k + 1)) ∧ (behL ch T s x y (k + 1)).length = (behL ch T s x y k).length + 1 := by
  have e : behL ch T s x y (k + 1) = behL ch T s x y k ++ [behP T x y tok (k + 1)] := by
    show (match movP ch T s x y (k + 1) with | some tok => behL ch T s x y k ++ [behP T x y tok (k + 1)] | none => behL ch T s x y k) = _
    rw [h]
  unfold totS
  rw [e, sumS_append]
  simp
theorem totS_none {ch : Tab → Nat → Nat → Nat → Nat} {T : Tab} {s f x y k : Nat} (h : movP ch T s x y (k + 1) = none) : totS ch T s f x y (k + 1) = totS ch T s f x y k ∧ (behL ch T s x y (k + 1)).length = (behL ch T s x y k).length := by
  have e : behL ch T s x y (k + 1) = behL ch T s x y k := by
    show (match movP ch T s x y (k + 1) with | some tok => behL ch T s x y k ++ [behP T x y tok (k + 1)] | none => behL ch T s x y k) = _
    rw [h]
  unfold totS
  rw [e]
  exact ⟨rfl, rfl⟩
/-- The table when the sums above m are made, and of m itself the squares below x. -/
def partS (T : Tab) (s m x : Nat) : Tab := fun u v => if u ≤ s ∧ v ≤ s ∧ (m < u + v ∨ u + v = m ∧ u < x) then T u v else (0, 0)
theorem partS_start (T : Tab) (s : Nat) : partS T s (2 * s) 0 = fun _ _ => (0, 0) := by
  funext u v
  unfold partS
  rw [if_neg (by omega)]
theorem partS_row (T : Tab) (s m : Nat) : partS T s (m + 1) (s + 1) = partS T s m 0 := by
  funext u v
  unfold partS
  by_cases h : u ≤ s ∧ v ≤ s ∧ (m + 1 < u + v ∨ u + v = m + 1 ∧ u < s + 1)
  · rw [if_pos h, if_pos (by omega)]
  · rw [if_neg h, if_neg (by omega)]
theorem partS_end (T : Tab) (s : Nat) : partS T s 0 (s + 1) = allT T s := by
  funext u v
  unfold partS allT
  by_cases h : u ≤ s ∧ v ≤ s
  · rw [if_pos (by omega), if_pos h]
  · rw [if_neg (by omega), if_neg h]
theorem partS_skip (T : Tab) {s m x : Nat} (h : ¬ (x ≤ m ∧ m - x ≤ s)) : partS T s m (x + 1) = partS T s m x := by
  funext u v
  unfold partS
  by_cases h2 : u ≤ s ∧ v ≤ s ∧ (m < u + v ∨ u + v = m ∧ u < x)
  · rw [if_pos h2, if_pos (by omega)]
  · rw [if_neg h2, if_neg (by omega)]
theorem partS_step (T : Tab) {s m x : Nat} (hx : x ≤ s) (h1 : x ≤ m) (h2 : m - x ≤ s) : setT (partS T s m x) x (m - x) (T x (m - x)) = partS T s m (x + 1) := by
  funext u v
  unfold setT partS
  by_cases h : u = x ∧ v = m - x
  · obtain ⟨rfl, rfl⟩ := h
    rw [if_pos ⟨rfl, rfl⟩, if_pos (by omega)]
  · rw [if_neg h]
    by_cases h3 : u ≤ s ∧ v ≤ s ∧ (m < u + v ∨ u + v = m ∧ u < x)
    · rw [if_pos h3, if_pos (by omega)]
    · rw [if_neg h3, if_neg (by omega)]
/-- A table is the one of a rule's means, as the model makes them. -/
def TabOkS (ch : Tab → Nat → Nat → Nat → Nat) (s f : Nat) (T : Tab) : Prop :=
  ∀ x y, x ≤ s → y ≤ s → okMeanS ch (partS T s (x + y) x) s f x y = true ∧ meanS ch (partS T s (x + y) x) s f x y = T x y
end Go.Proofs.Ytblpfjjnlfjloaa
