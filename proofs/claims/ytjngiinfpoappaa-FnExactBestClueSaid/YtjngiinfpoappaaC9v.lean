/-
  Puzzles: mathematics of the tops: the solutions are in the order of Over; the numbers left by clues; the best clue; clues taken out.
-/
import Derived.Test.YtjngiinfpoappaaC9q
import Derived.Test.YtjngiinfpoappaaC9f
namespace Go.Proofs.Ytjngiinfpoappaa

theorem tosL_over {s f o a : Int} : ∀ (t : Nat), ∀ x ∈ tosL s f o a t, x.1.2.2 = o
  | 0, x, hx => by cases hx
  | t + 1, x, hx => by
    rw [tosL, List.mem_append] at hx
    rcases hx with hx | hx
    · exact tosL_over t x hx
    · split at hx
      · cases hx
      · obtain rfl := List.mem_singleton.1 hx; rfl
theorem fromsL_over {s f o : Int} {S : Nat} : ∀ (k : Nat), ∀ x ∈ fromsL s f o S k, x.1.2.2 = o
  | 0, x, hx => by cases hx
  | k + 1, x, hx => by
    rw [fromsL, List.mem_append] at hx
    rcases hx with hx | hx
    · exact fromsL_over k x hx
    · exact tosL_over _ x hx
theorem oversL_over {s f : Int} {S : Nat} : ∀ (m : Nat), ∀ x ∈ oversL s f S m, 0 ≤ x.1.2.2 ∧ x.1.2.2 < (m : Int)
  | 0, x, hx => by cases hx
  | m + 1, x, hx => by
    rw [oversL, List.mem_append, List.mem_append] at hx
    rcases hx with (hx | hx) | hx
    · have := oversL_over m x hx; exact ⟨this.1, by omega⟩
    · obtain rfl := List.mem_singleton.1 hx; exact ⟨by dsimp only; omega, by dsimp only; omega⟩
    · rw [fromsL_over _ x hx]; exact ⟨by omega, by omega⟩
theorem oversL_sorted {s f : Int} {S : Nat} : ∀ (m : Nat), (oversL s f S m).Pairwise (fun x y => x.1.2.2 ≤ y.1.2.2)
  | 0 => List.Pairwise.nil
  | m + 1 => by
    rw [oversL, List.pairwise_append, List.pairwise_append]
    refine ⟨⟨oversL_sorted m, List.pairwise_singleton _ _, fun x hx y hy => ?_⟩, ?_, fun x hx y hy => ?_⟩
    · obtain rfl := List.mem_singleton.1 hy
      have := oversL_over m x hx
      dsimp only
      omega
    · rw [List.pairwise_iff_forall_sublist]
      intro x y hs
      have h1 := fromsL_over _ x (hs.subset (by simp))
      have h2 := fromsL_over _ y (hs.subset (by simp))
      omega
    · rw [fromsL_over _ y hy]
      rcases List.mem_append.1 hx with hx | hx
      · have := oversL_over m x hx; omega
      · obtain rfl := List.mem_singleton.1 hx; dsimp only; omega
theorem keepL_sorted {s f : Int} {S m : Nat} (cs : List Qd) : (keepL (oversL s f S m) cs).Pairwise (fun x y => x.1.2.2 ≤ y.1.2.2) := (oversL_sorted m).sublist List.filter_sublist
theorem keepL_over {s f : Int} {S m : Nat} {cs : List Qd} {x : Brd} (hx : x ∈ keepL (oversL s f S m) cs) : 0 ≤ x.1.2.2 ∧ x.1.2.2 < (m : Int) := oversL_over m x (List.mem_filter.1 hx).1
theorem sorted_at {K : List Brd} (h : K.Pairwise (fun x y => x.1.2.2 ≤ y.1.2.2)) {i j : Nat} (hij : i ≤ j) (hj : j < K.length) : (K[i]'(by omega)).1.2.2 ≤ K[j].1.2.2 := by
  rcases Nat.lt_or_ge i j with h1 | h1
  · exact List.pairwise_iff_getElem.1 h i j (by omega) hj h1
  · obtain rfl : i = j := by omega
    exact Int.le_refl _

/-- The Over that all boards of a row have, or -1; none if there is no board. -/
def sureV (K : List Brd) : Int × Bool := if h : 0 < K.length then (if (K[K.length - 1]'(by omega)).1.2.2 = (K[0]'h).1.2.2 then (K[0]'h).1.2.2 else -1, true) else (0, false)
theorem sureV_nil {K : List Brd} (h : K.length = 0) : sureV K = (0, false) := by rw [sureV, dif_neg (by omega)]
theorem sureV_cons {K : List Brd} (h : 0 < K.length) : sureV K = (if (K[K.length - 1]'(by omega)).1.2.2 = (K[0]'h).1.2.2 then (K[0]'h).1.2.2 else -1, true) := by rw [sureV, dif_pos h]
/-- A board with another Over than the first one: there is none that all have. -/
theorem sureV_differ {K : List Brd} (hs : K.Pairwise (fun x y => x.1.2.2 ≤ y.1.2.2)) {k : Nat} (hk : k < K.length) (hne : ¬ K[k].1.2.2 = (K[0]'(by omega)).1.2.2) : sureV K = (-1, true) := by
  have h0 : 0 < K.length := by omega
  have h1 := sorted_at hs (Nat.zero_le k) hk
  have h2 := sorted_at hs (show k ≤ K.length - 1 by omega) (by omega)
  rw [sureV_cons h0, if_neg (by omega)]
theorem sureV_same {K : List Brd} (h0 : 0 < K.length) (h : ∀ k (hk : k < K.length), K[k].1.2.2 = (K[0]'h0).1.2.2) : sureV K = ((K[0]'h0).1.2.2, true) := by
  rw [sureV_cons h0, if_pos (h _ (by omega))]
/-- How many boards fit the first n clues, for n below k. -/
noncomputable def leftL (s f : Int) (S : Nat) (L : List Qd) : Nat → List Int
  | 0 => []
  | n + 1 => leftL s f S L n ++ [((keepL (oversL s f S 3) (L.take n)).length : Int)]
theorem leftL_len (s f : Int) (S : Nat) (L : List Qd) : ∀ n, (leftL s f S L n).length = n
  | 0 => rfl
  | n + 1 => by rw [leftL, List.length_append, leftL_len s f S L n]; rfl
/-- The clues below k without which as many boards fit. -/
noncomputable def needL (s f : Int) (S : Nat) (L : List Qd) : Nat → List Int
  | 0 => []
  | n + 1 => needL s f S L n ++ (if (keepL (oversL s f S 3) (dropQ L n)).length = (keepL (oversL s f S 3) L).length then [(n : Int)] else [])
theorem needL_len (s f : Int) (S : Nat) (L : List Qd) : ∀ n, (needL s f S L n).length ≤ n
  | 0 => Nat.le_refl _
  | n + 1 => by
    have := needL_len s f S L n
    rw [needL, List.length_append]
    split <;> simp <;> omega
/-- How many boards fit the k-th clue alone. -/
noncomputable def oneN (s f : Int) (S : Nat) (L : List Qd) (k : Nat) : Nat := (keepL (oversL s f S 3) ((L.drop k).take 1)).length
/-- The best of the clues below k and how many boards fit it. -/
noncomputable def bestC (s f : Int) (S : Nat) (L : List Qd) : Nat → Nat × Nat
  | 0 => (0, 0)
  | k + 1 => if k = 0 ∨ oneN s f S L k < (bestC s f S L k).2 then (k, oneN s f S L k) else bestC s f S L k
theorem bestC_lt (s f : Int) (S : Nat) (L : List Qd) : ∀ k, (bestC s f S L k).1 ≤ k
  | 0 => Nat.le_refl _
  | k + 1 => by
    have := bestC_lt s f S L k
    rw [bestC]
    split
    · exact Nat.le_succ _
    · omega
/-- The clues that are left when those from the k-th on are taken out where the puzzle is solved still; n rounds. -/
noncomputable def hardF (s f : Int) (S : Nat) : Nat → List Qd → Nat → List Qd
  | 0, C, _ => C
  | n + 1, C, k => if (keepL (oversL s f S 3) (dropQ C k)).length = 1 then hardF s f S n (dropQ C k) k else hardF s f S n C (k + 1)
end Go.Proofs.Ytjngiinfpoappaa
