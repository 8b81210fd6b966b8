/-
  The list behind one, told index by index; the orders of a list, told die by die. Plain mathematics.
-/
import Derived.Test.YtblpfjjnlfjloabM41
namespace Go.Proofs.Ytblpfjjnlfjloab

def gt (t : List Nat) (i : Nat) : Nat := t.getD i 0
theorem gt_at (t : List Nat) (i : Nat) (h : i < t.length) : gt t i = t[i] := by simp [gt, h]
theorem gt_over (t : List Nat) (i : Nat) (h : t.length ≤ i) : gt t i = 0 := by simp [gt, h]
theorem gt_take (t : List Nat) (i : Nat) (h : i < t.length) : t.take (i + 1) = t.take i ++ [gt t i] := by
  rw [List.take_succ_eq_append_getElem h, gt_at t i h]
theorem gt_bd {d f : Nat} {t : List Nat} (h : t ∈ ups d f) {i : Nat} (hi : i < d) : 1 ≤ gt t i ∧ gt t i ≤ f := by
  have hl := ups_len d f t h
  rw [gt_at t i (by omega)]
  exact ups_in d f t h _ (List.getElem_mem _)
theorem gt_le {d f : Nat} {t : List Nat} (h : t ∈ ups d f) (i : Nat) : gt t i ≤ f := by
  by_cases hi : i < d
  · exact (gt_bd h hi).2
  · rw [gt_over t i (by rw [ups_len d f t h]; omega)]; omega
theorem gt_down {d f : Nat} {t : List Nat} (h : t ∈ ups d f) {i j : Nat} (hij : i ≤ j) (hj : j < d) : gt t j ≤ gt t i := by
  have hl := ups_len d f t h
  rcases Nat.lt_or_ge i j with h1 | h1
  · rw [gt_at t i (by omega), gt_at t j (by omega)]
    exact (List.pairwise_iff_getElem.1 (ups_down d f t h)) i j (by omega) (by omega) h1
  · obtain rfl : i = j := by omega
    exact Nat.le_refl _
theorem gt_ext {s t : List Nat} (hl : s.length = t.length) (h : ∀ i, i < t.length → gt s i = gt t i) : s = t := by
  apply List.ext_getElem hl
  intro i h1 h2
  rw [← gt_at s i h1, ← gt_at t i h2]
  exact h i h2
theorem gt_rep (d a i : Nat) (h : i < d) : gt (List.replicate d a) i = a := by rw [gt_at _ _ (by simpa using h)]; simp

def lastP : Nat → List Nat → Nat
  | b, [] => b
  | _, p :: ps => lastP p ps
theorem lastP_snoc (x : Nat) : ∀ (b : Nat) (l : List Nat), lastP b (l ++ [x]) = x
  | _, [] => rfl
  | _, p :: ps => lastP_snoc x p ps
theorem nxl_pre (a m : Nat) : ∀ (pre : List Nat) (b : Nat), a < lastP b pre → nxl b (pre ++ List.replicate (m + 1) a) = some (pre ++ (a + 1) :: List.replicate m 1)
  | [], b, h => by
    have h' : a < b := h
    rw [List.nil_append, List.replicate_succ]
    unfold nxl
    rw [nxl_last]
    simp [h']
  | p :: ps, b, h => by
    rw [List.cons_append]
    exact nxl_cons b p _ _ (nxl_pre a m ps p h)

theorem gt_next {d f j : Nat} {t y : List Nat} (ht : t ∈ ups d f) (hy : nxl f t = some y) (hj : j < d) (he : ∀ i, j ≤ i → i < d → gt t i = gt t j) (h0 : j = 0 ∨ gt t j ≠ gt t (j - 1)) (i : Nat) :
    gt y i = if i = j then gt t j + 1 else if j < i ∧ i < d then 1 else gt t i := by
  have hl := ups_len d f t ht
  have hd : t.drop j = List.replicate (d - 1 - j + 1) (gt t j) := by
    apply gt_ext
    · simp; omega
    · intro i hi
      rw [List.length_replicate] at hi
      rw [gt_rep _ _ _ hi, ← he (j + i) (by omega) (by omega)]
      simp [gt]
  have ht' : t.take j ++ List.replicate (d - 1 - j + 1) (gt t j) = t := by rw [← hd, List.take_append_drop]
  have hlt : gt t j < lastP f (t.take j) := by
    rcases h0 with rfl | h0
    · have h1 := (gt_bd ht hj).2
      show gt t 0 < f
      rcases Nat.lt_or_ge (gt t 0) f with h2 | h2
      · exact h2
      · exfalso
        have h3 : gt t 0 = f := by omega
        rw [List.take_zero, List.nil_append, h3] at ht'
        rw [← ht', nxl_last] at hy
        cases hy
    · by_cases hj0 : j = 0
      · subst hj0; simp at h0
      · have h1 := gt_down ht (show j - 1 ≤ j by omega) hj
        have e := gt_take t (j - 1) (by omega)
        rw [show j - 1 + 1 = j by omega] at e
        rw [e, lastP_snoc]
        omega
  have hn := nxl_pre (gt t j) (d - 1 - j) (t.take j) f hlt
  rw [ht', hy] at hn
  injection hn with hn
  have htk : (t.take j).length = j := by rw [List.length_take]; omega
  rw [hn]
  by_cases h1 : i = j
  · subst h1
    rw [if_pos rfl]
    unfold gt
    rw [List.getD_eq_getElem?_getD, List.getElem?_append_right (by omega), htk, Nat.sub_self]
    rfl
  · rw [if_neg h1]
    by_cases h2 : j < i ∧ i < d
    · rw [if_pos h2]
      obtain ⟨m, rfl⟩ : ∃ m, i = j + 1 + m := ⟨i - (j + 1), by omega⟩
      unfold gt
      rw [List.getD_eq_getElem?_getD, List.getElem?_append_right (by omega), htk, show j + 1 + m - j = m + 1 by omega, List.getElem?_cons_succ, List.getElem?_replicate, if_pos (by omega)]
      rfl
    · rw [if_neg h2]
      rcases Nat.lt_or_ge i j with h3 | h3
      · unfold gt
        rw [List.getD_eq_getElem?_getD, List.getElem?_append_left (by omega), List.getElem?_take_of_lt h3, List.getD_eq_getElem?_getD]
      · rw [gt_over t i (by omega), gt_over]
        simp; omega

/-- how many of the dice before one have the face of the last of them -/
def same (t : List Nat) (k : Nat) : Nat := if k = 0 then 0 else (t.take k).count (gt t (k - 1))
theorem same_le (t : List Nat) (k : Nat) : same t k ≤ k := by
  unfold same
  by_cases h : k = 0
  · rw [if_pos h]; omega
  · rw [if_neg h]
    exact Nat.le_trans List.count_le_length (List.length_take_le _ _)
theorem same_pos (t : List Nat) (k : Nat) (h : k < t.length) : 1 ≤ same t (k + 1) := by
  unfold same
  rw [if_neg (by omega), Nat.add_sub_cancel, gt_take t k h, List.count_append]
  simp
theorem same_keep {t : List Nat} {k : Nat} (h : k < t.length) (h0 : 0 < k) (he : gt t k = gt t (k - 1)) : same t (k + 1) = same t k + 1 := by
  unfold same
  rw [if_neg (by omega), if_neg (by omega), Nat.add_sub_cancel, gt_take t k h, List.count_append, he]
  simp
theorem same_new {d f : Nat} {t : List Nat} (ht : t ∈ ups d f) {k : Nat} (h : k < d) (he : k = 0 ∨ gt t k ≠ gt t (k - 1)) : same t (k + 1) = 1 := by
  have hl := ups_len d f t ht
  unfold same
  rw [if_neg (by omega), Nat.add_sub_cancel, gt_take t k (by omega), List.count_append]
  have : (t.take k).count (gt t k) = 0 := by
    apply List.count_eq_zero_of_not_mem
    intro hm
    obtain ⟨i, hi, e⟩ := List.getElem_of_mem hm
    rw [List.length_take] at hi
    rw [List.getElem_take, ← gt_at t i (by omega)] at e
    rcases he with he | he
    · omega
    · have h1 := gt_down ht (show i ≤ k - 1 by omega) (show k - 1 < d by omega)
      have h2 := gt_down ht (show k - 1 ≤ k by omega) h
      omega
  rw [this]; simp
theorem same_count {t : List Nat} {k : Nat} {d f : Nat} (ht : t ∈ ups d f) (h : k < d) : same t (k + 1) = (t.take k).count (gt t k) + 1 := by
  have hl := ups_len d f t ht
  unfold same
  rw [if_neg (by omega), Nat.add_sub_cancel, gt_take t k (by omega), List.count_append]
  simp
theorem ord_step {d f : Nat} {t : List Nat} (ht : t ∈ ups d f) {k : Nat} (h : k < d) : ordN (t.take k) * (k + 1) / same t (k + 1) = ordN (t.take (k + 1)) := by
  have hl := ups_len d f t ht
  rw [same_count ht h]
  have h1 := ups_take d f t ht (k + 1) (by omega)
  have h2 := ups_take d f t ht k (by omega)
  rw [gt_take t k (by omega)] at h1 ⊢
  exact ordN_snoc f k _ _ h1 h2
theorem ord_small {d f : Nat} {t : List Nat} (ht : t ∈ ups d f) {k : Nat} (h : k ≤ d) (hd : d ≤ 8) : ordN (t.take k) ≤ 40320 := by
  have h1 := ordN_le f k _ (ups_take d f t ht k h)
  have h2 : ∀ k, k ≤ 8 → fac k ≤ 40320 := by decide
  exact Nat.le_trans h1 (h2 k (by omega))
theorem ord_le8 {d f : Nat} {t : List Nat} (ht : t ∈ ups d f) (hd : d ≤ 8) : ordN t ≤ 40320 := by
  have h1 := ordN_le f d _ ht
  have h2 : ∀ k, k ≤ 8 → fac k ≤ 40320 := by decide
  exact Nat.le_trans h1 (h2 d hd)
end Go.Proofs.Ytblpfjjnlfjloab
