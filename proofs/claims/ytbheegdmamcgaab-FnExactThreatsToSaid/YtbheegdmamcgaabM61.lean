/-
  Plain mathematics of chapter 7: the tokens on a square, states. Nothing of the program.
-/
import Derived.Test.YtbheegdmamcgaabM60
namespace Go.Proofs.Ytbheegdmamcgaab

/-- The square of a token of player p with x steps; -1: it is on none. -/
def sqr (q : Int) (st : List Int) (p : Nat) (x : Int) : Int := if inB x 0 (q - 1) = true then (st.getD p 0 + x) % q else -1
theorem sqr_in {q : Int} {st : List Int} {p : Nat} {x : Int} (h : inB x 0 (q - 1) = true) : sqr q st p x = (st.getD p 0 + x) % q := if_pos h
theorem sqr_out {q : Int} {st : List Int} {p : Nat} {x : Int} (h : inB x 0 (q - 1) = false) : sqr q st p x = -1 := by rw [sqr, h]; rfl
theorem sqr_lt {q : Int} {st : List Int} {p : Nat} {x : Int} (hq : 0 < q) (h : inB x 0 (q - 1) = true) : 0 ≤ sqr q st p x ∧ sqr q st p x < q := by
  rw [sqr_in h]; exact ⟨Int.emod_nonneg _ (by omega), Int.emod_lt_of_pos _ hq⟩

/-- The tokens of player p with numbers below t that are on. -/
def rowTo (on : Nat → Nat → Bool) (p : Nat) : Nat → List (Int × Int)
  | 0 => []
  | t + 1 => rowTo on p t ++ if on p t then [((p : Int), (t : Int))] else []
/-- Those of the players below p, k tokens each. -/
def pawnsTo (on : Nat → Nat → Bool) (k : Nat) : Nat → List (Int × Int)
  | 0 => []
  | p + 1 => pawnsTo on k p ++ rowTo on p k
theorem rowTo_yes {on : Nat → Nat → Bool} {p t : Nat} (h : on p t = true) : rowTo on p (t + 1) = rowTo on p t ++ [((p : Int), (t : Int))] := by rw [rowTo, h]; rfl
theorem rowTo_no {on : Nat → Nat → Bool} {p t : Nat} (h : on p t = false) : rowTo on p (t + 1) = rowTo on p t := by rw [rowTo, h]; simp
theorem rowTo_len (on : Nat → Nat → Bool) (p : Nat) : ∀ t, (rowTo on p t).length ≤ t
  | 0 => by simp [rowTo]
  | t + 1 => by
    have := rowTo_len on p t
    rw [rowTo, List.length_append]
    split <;> simp <;> omega
theorem pawnsTo_len (on : Nat → Nat → Bool) (k : Nat) : ∀ p, (pawnsTo on k p).length ≤ p * k
  | 0 => by simp [pawnsTo]
  | p + 1 => by
    have := pawnsTo_len on k p
    have h2 := rowTo_len on p k
    rw [pawnsTo, List.length_append, Nat.add_mul]
    omega
theorem rowTo_mem {on : Nat → Nat → Bool} {p : Nat} {a : Int × Int} : ∀ {t : Nat}, a ∈ rowTo on p t ↔ ∃ i, i < t ∧ on p i = true ∧ a = ((p : Int), (i : Int))
  | 0 => by simp [rowTo]
  | t + 1 => by
    rw [rowTo, List.mem_append, rowTo_mem]
    constructor
    · rintro (⟨i, hi, h⟩ | h)
      · exact ⟨i, by omega, h⟩
      · by_cases ho : on p t = true
        · rw [if_pos ho] at h
          exact ⟨t, by omega, ho, by simpa using h⟩
        · rw [if_neg ho] at h; simp at h
    · rintro ⟨i, hi, ho, e⟩
      rcases Nat.lt_or_ge i t with h | h
      · exact .inl ⟨i, h, ho, e⟩
      · obtain rfl : i = t := by omega
        exact .inr (by rw [if_pos ho]; simp [e])
theorem pawnsTo_mem {on : Nat → Nat → Bool} {k : Nat} {a : Int × Int} : ∀ {n : Nat}, a ∈ pawnsTo on k n ↔ ∃ p t, p < n ∧ t < k ∧ on p t = true ∧ a = ((p : Int), (t : Int))
  | 0 => by simp [pawnsTo]
  | n + 1 => by
    rw [pawnsTo, List.mem_append, pawnsTo_mem, rowTo_mem]
    constructor
    · rintro (⟨p, t, hp, h⟩ | ⟨t, ht, ho, e⟩)
      · exact ⟨p, t, by omega, h⟩
      · exact ⟨n, t, by omega, ht, ho, e⟩
    · rintro ⟨p, t, hp, ht, ho, e⟩
      rcases Nat.lt_or_ge p n with h | h
      · exact .inl ⟨p, t, h, ht, ho, e⟩
      · obtain rfl : p = n := by omega
        exact .inr ⟨t, ht, ho, e⟩
theorem rowTo_congr {on on' : Nat → Nat → Bool} {p : Nat} : ∀ {t : Nat}, (∀ i < t, on p i = on' p i) → rowTo on p t = rowTo on' p t
  | 0, _ => rfl
  | t + 1, h => by rw [rowTo, rowTo, rowTo_congr (fun i hi => h i (by omega)), h t (by omega)]
theorem pawnsTo_congr {on on' : Nat → Nat → Bool} {k : Nat} : ∀ {n : Nat}, (∀ p < n, ∀ t < k, on p t = on' p t) → pawnsTo on k n = pawnsTo on' k n
  | 0, _ => rfl
  | n + 1, h => by rw [pawnsTo, pawnsTo, pawnsTo_congr (fun p hp => h p (by omega)), rowTo_congr (fun t ht => h n (by omega) t ht)]

/-- Whether a token is on the square s. -/
def onS (q : Int) (st : List Int) (F : Nat → Nat → Int) (s : Int) (p t : Nat) : Bool := sqr q st p (F p t) == s
theorem onS_congr {q : Int} {st : List Int} {F G : Nat → Nat → Int} {s : Int} {p t : Nat} (h : F p t = G p t) : onS q st F s p t = onS q st G s p t := by rw [onS, onS, h]
/-- The tokens on a square, ordered. -/
def pawnsL (q k : Int) (st : List Int) (F : Nat → Nat → Int) (s : Int) : List (Int × Int) := pawnsTo (onS q st F s) k.toNat st.length
theorem pawnsL_len {q k : Int} {st : List Int} {F : Nat → Nat → Int} {s : Int} (hn : st.length ≤ 4) (hk : k ≤ 4) : (pawnsL q k st F s).length ≤ 16 := by
  have h := pawnsTo_len (onS q st F s) k.toNat st.length
  have h2 : st.length * k.toNat ≤ 4 * 4 := Nat.mul_le_mul hn (by omega)
  unfold pawnsL
  omega
theorem pawnsL_mem {q k : Int} {st : List Int} {F : Nat → Nat → Int} {s : Int} {a : Int × Int} : a ∈ pawnsL q k st F s ↔ ∃ p t, p < st.length ∧ t < k.toNat ∧ onS q st F s p t = true ∧ a = ((p : Int), (t : Int)) := pawnsTo_mem
theorem pawnsL_congr {q k : Int} {st : List Int} {F G : Nat → Nat → Int} {s : Int} (h : ∀ p < st.length, ∀ t < k.toNat, F p t = G p t) : pawnsL q k st F s = pawnsL q k st G s :=
  pawnsTo_congr fun p hp t ht => onS_congr (h p hp t ht)
/-- Those that a token of player p sends home from there. -/
def sentL (S : Bool) (P : List (Int × Int)) (p : Int) : List (Int × Int) := if S = true then [] else P.filter (fun a => !(a.1 == p))
theorem sentL_safe {P : List (Int × Int)} {p : Int} : sentL true P p = [] := rfl
theorem sentL_not {P : List (Int × Int)} {p : Int} : sentL false P p = P.filter (fun a => !(a.1 == p)) := rfl
theorem sentL_len (S : Bool) (P : List (Int × Int)) (p : Int) : (sentL S P p).length ≤ P.length := by
  cases S
  · exact List.length_filter_le _ _
  · simp [sentL]
/-- On a square are tokens of one player, or it is safe. -/
def okSq (S : Bool) (P : List (Int × Int)) : Bool := S || P.all (fun a => a.1 == (P.headD (0, 0)).1)
theorem okSq_head {S : Bool} {P : List (Int × Int)} {i : Nat} (hi : i < P.length) (hS : S = false) (h : ¬ P[i].1 = (P.headD (0, 0)).1) : okSq S P = false := by
  subst hS
  cases hb : okSq false P
  · rfl
  · simp only [okSq, Bool.false_or, List.all_eq_true] at hb
    have := hb _ (List.getElem_mem hi)
    simp at this
    exact absurd (by simpa using this) h
theorem okSq_all {S : Bool} {P : List (Int × Int)} (h : ∀ i (hi : i < P.length), P[i].1 = (P.headD (0, 0)).1 ∨ S = true) : okSq S P = true := by
  cases S
  · simp only [okSq, Bool.false_or, List.all_eq_true]
    intro a ha
    obtain ⟨i, hi, rfl⟩ := List.mem_iff_getElem.1 ha
    simpa using h i hi
  · rfl
theorem okSq_sent {S : Bool} {P : List (Int × Int)} {i : Nat} (hi : i < P.length) (h : 0 < (sentL S P P[i].1).length) : okSq S P = false := by
  cases S
  · obtain ⟨b, hb⟩ := List.exists_mem_of_length_pos h
    rw [sentL_not, List.mem_filter] at hb
    cases ho : okSq false P
    · rfl
    · simp only [okSq, Bool.false_or, List.all_eq_true] at ho
      have h1 := ho _ hb.1
      have h2 := ho _ (List.getElem_mem hi)
      simp only [beq_iff_eq] at h1 h2
      have h3 := hb.2
      rw [h1, h2] at h3
      simp at h3
  · simp [sentL] at h
theorem okSq_none {S : Bool} {P : List (Int × Int)} (h : ∀ i (hi : i < P.length), (sentL S P P[i].1).length = 0) : okSq S P = true := by
  refine okSq_all fun i hi => ?_
  cases S
  · left
    have h0 : 0 < P.length := by omega
    have hh : (P.headD (0, 0)) = P[0] := by
      match P, h0 with
      | a :: t, _ => rfl
    have h1 := List.length_eq_zero_iff.1 (h 0 h0)
    rw [sentL_not, List.filter_eq_nil_iff] at h1
    have := h1 _ (List.getElem_mem hi)
    rw [hh]
    simpa using this
  · exact .inr rfl
/-- All squares are in peace. -/
def peaceB (q k : Int) (st sf : List Int) (F : Nat → Nat → Int) : Bool := (List.range q.toNat).all (fun s => okSq (safeB sf s) (pawnsL q k st F s))
theorem peace_no {q k : Int} {st sf : List Int} {F : Nat → Nat → Int} {s : Nat} (hs : (s : Int) < q) (h : okSq (safeB sf s) (pawnsL q k st F s) = false) : peaceB q k st sf F = false := by
  cases hb : peaceB q k st sf F
  · rfl
  · simp only [peaceB, List.all_eq_true] at hb
    have := hb s (by simp; omega)
    rw [h] at this
    cases this
theorem peace_yes {q k : Int} {st sf : List Int} {F : Nat → Nat → Int} (h : ∀ s : Nat, (s : Int) < q → okSq (safeB sf s) (pawnsL q k st F s) = true) : peaceB q k st sf F = true := by
  simp only [peaceB, List.all_eq_true]
  intro s hs
  simp at hs
  exact h s (by omega)
theorem peace_congr {q k : Int} {st sf : List Int} {F G : Nat → Nat → Int} (h : ∀ p < st.length, ∀ t < k.toNat, F p t = G p t) : peaceB q k st sf F = peaceB q k st sf G := by
  unfold peaceB
  simp only [pawnsL_congr h]

/-- The rows of a state. -/
def rowsB (q k : Int) : List (List Int) → Bool
  | [] => true
  | r :: t => ((r.length : Int) == k) && allB (-1) q r && rowsB q k t
theorem rowsB_drop {q k : Int} {L : List (List Int)} {j : Nat} (h : j < L.length) : rowsB q k (L.drop j) = (((L[j].length : Int) == k) && allB (-1) q L[j] && rowsB q k (L.drop (j + 1))) := by
  rw [List.drop_eq_getElem_cons h, rowsB]
theorem rowsB_at {q k : Int} : ∀ {L : List (List Int)}, rowsB q k L = true → ∀ r ∈ L, (r.length : Int) = k ∧ ∀ x ∈ r, -1 ≤ x ∧ x ≤ q
  | [], _, r, hr => by simp at hr
  | a :: t, h, r, hr => by
    simp only [rowsB, Bool.and_eq_true, allB_iff] at h
    rcases List.mem_cons.1 hr with rfl | hr
    · exact ⟨by simpa using h.1.1, h.1.2⟩
    · exact rowsB_at h.2 r hr
/-- The steps of a state; where there is no player or token, those of a token that is done. -/
def stF (q : Int) (L : List (List Int)) (p t : Nat) : Int := if h : p < L.length then (if h2 : t < L[p].length then L[p][t] else q) else q
theorem stF_at {q : Int} {L : List (List Int)} {p t : Nat} (h : p < L.length) (h2 : t < L[p].length) : stF q L p t = L[p][t] := by simp [stF, h, h2]
/-- There is such a state. -/
def stateB (q k : Int) (st sf : List Int) (L : List (List Int)) : Bool := (L.length == st.length) && rowsB q k L && peaceB q k st sf (stF q L)
structure Sta (q k : Int) (n : Nat) (L : List (List Int)) : Prop where
  len : L.length = n
  row : ∀ p (h : p < L.length), (L[p].length : Int) = k
  val : ∀ p (h : p < L.length) t (h2 : t < L[p].length), -1 ≤ L[p][t] ∧ L[p][t] ≤ q
theorem sta_of {q k : Int} {n : Nat} {L : List (List Int)} (h1 : L.length = n) (h2 : rowsB q k L = true) : Sta q k n L :=
  ⟨h1, fun _ h => (rowsB_at h2 _ (List.getElem_mem h)).1, fun _ h _ ht => (rowsB_at h2 _ (List.getElem_mem h)).2 _ (List.getElem_mem ht)⟩
theorem stF_bd {q k : Int} {n : Nat} {L : List (List Int)} (h : Sta q k n L) (hq : -1 ≤ q) (p t : Nat) : -1 ≤ stF q L p t ∧ stF q L p t ≤ q := by
  unfold stF
  split
  · split
    · exact h.val _ _ _ _
    · omega
  · omega
end Go.Proofs.Ytbheegdmamcgaab
