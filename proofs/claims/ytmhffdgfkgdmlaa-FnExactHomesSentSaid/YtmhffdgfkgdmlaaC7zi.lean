/-
  Plays: plain mathematics: the stand and the tokens sent home behind so many moves.
-/
import Derived.Test.YtmhffdgfkgdmlaaC7dv
import Derived.Test.YtmhffdgfkgdmlaaC7o
import Derived.Test.YtmhffdgfkgdmlaaM60
namespace Go.Proofs.Ytmhffdgfkgdmlaa
open Go.RowKit

def m0 (m : List Int) : Int := m.getD 0 0
def m1 (m : List Int) : Int := m.getD 1 0
def m2 (m : List Int) : Int := m.getD 2 0
/-- A list tells a move. -/
def isMv (f k : Int) (n : Nat) (m : List Int) : Bool := decide (m.length = 3) && mvB f k n (m0 m) (m1 m) (m2 m)
/-- A move can be made. -/
def mOk (q f k : Int) (n : Nat) (F : Nat → Nat → Int) (m : List Int) : Bool := isMv f k n m && canB q f (F (m0 m).toNat (m1 m).toNat) (m2 m)
/-- The stand behind the first i moves. -/
def plF (q f k : Int) (st sf : List Int) (M : List (List Int)) : Nat → Nat → Nat → Int
  | 0 => alikeFV st.length k q (-1)
  | i + 1 => goF q k st sf (plF q f k st sf M i) (m0 (M.getD i [])).toNat (m1 (M.getD i [])).toNat (m2 (M.getD i []))
/-- How many tokens they sent home. -/
def plS (q f k : Int) (st sf : List Int) (M : List (List Int)) : Nat → Nat
  | 0 => 0
  | i + 1 => plS q f k st sf M i + (goL q k st sf (plF q f k st sf M i) (m0 (M.getD i [])).toNat (m1 (M.getD i [])).toNat (m2 (M.getD i []))).length
/-- The move number i can be made behind those before it. -/
def plOk (q f k : Int) (st sf : List Int) (M : List (List Int)) (i : Nat) : Bool := mOk q f k st.length (plF q f k st sf M i) (M.getD i [])
/-- J moves are made: all, or up to the first that cannot be made. -/
structure Made (q f k : Int) (st sf : List Int) (M : List (List Int)) (J : Nat) : Prop where
  le : J ≤ M.length
  ok : ∀ i, i < J → plOk q f k st sf M i = true
  no : J < M.length → plOk q f k st sf M J = false
theorem made_ex (q f k : Int) (st sf : List Int) (M : List (List Int)) : ∃ J, Made q f k st sf M J := by
  have : ∀ n, n ≤ M.length → (∃ J, J < n ∧ Made q f k st sf M J) ∨ ∀ i, i < n → plOk q f k st sf M i = true := by
    intro n
    induction n with
    | zero => exact fun _ => .inr fun i hi => by omega
    | succ n ih =>
      intro hn
      rcases ih (by omega) with ⟨J, hJ, h⟩ | h
      · exact .inl ⟨J, by omega, h⟩
      · cases ho : plOk q f k st sf M n
        · exact .inl ⟨n, by omega, by omega, h, fun _ => ho⟩
        · refine .inr fun i hi => ?_
          by_cases e : i = n
          · rw [e]; exact ho
          · exact h i (by omega)
  rcases this M.length (Nat.le_refl _) with ⟨J, _, h⟩ | h
  · exact ⟨J, h⟩
  · exact ⟨M.length, Nat.le_refl _, h, fun h => by omega⟩
section
variable {q f k : Int} {st sf : List Int} {M : List (List Int)}
theorem isMv_in {n : Nat} {m : List Int} (h : isMv f k n m = true) : m.length = 3 ∧ (0 ≤ m0 m ∧ (m0 m).toNat < n) ∧ (0 ≤ m1 m ∧ (m1 m).toNat < k.toNat) ∧ 1 ≤ m2 m ∧ m2 m ≤ f := by
  simp only [isMv, mvB, Bool.and_eq_true, decide_eq_true_eq, inB_iff] at h
  exact ⟨h.1, ⟨by omega, by omega⟩, ⟨by omega, by omega⟩, h.2.2.1, h.2.2.2⟩
theorem homeF_cases (F : Nat → Nat → Int) (P : List (Int × Int)) (a b : Nat) : homeF F P a b = -1 ∨ homeF F P a b = F a b := by
  unfold homeF; split
  · exact .inl rfl
  · exact .inr rfl
theorem goF_bd {F : Nat → Nat → Int} {o t : Nat} {x : Int} (hq : 0 ≤ q) (hF : ∀ a b, -1 ≤ F a b ∧ F a b ≤ q) (hx : 1 ≤ x) (hc : canB q f (F o t) x = true) (a b : Nat) : -1 ≤ goF q k st sf F o t x a b ∧ goF q k st sf F o t x a b ≤ q := by
  have hn := newX_bd hq hx hc
  unfold goF
  rcases homeF_cases (updX F o t (newX (F o t) x)) (goL q k st sf F o t x) a b with e | e
  · rw [e]; omega
  · rw [e]
    unfold updX
    split
    · omega
    · exact hF a b
theorem goF_same {F : Nat → Nat → Int} {o t : Nat} {x : Int} {a b : Nat} (h : ¬ (a < st.length ∧ b < k.toNat)) (ho : o < st.length) (ht : t < k.toNat) : goF q k st sf F o t x a b = F a b := by
  have e : updX F o t (newX (F o t) x) a b = F a b := by unfold updX; rw [if_neg (by rintro ⟨rfl, rfl⟩; exact h ⟨ho, ht⟩)]
  unfold goF homeF
  rw [if_neg ?_, e]
  intro hany
  rw [List.any_eq_true] at hany
  obtain ⟨p, hp, hpe⟩ := hany
  obtain ⟨y, z, hy, hz, e2, _⟩ := goL_mem hp
  rw [e2] at hpe
  simp at hpe
  exact h ⟨by omega, by omega⟩
theorem plF_bd (hT : Trk q f k st sf) : ∀ i, (∀ j, j < i → plOk q f k st sf M j = true) → ∀ a b, -1 ≤ plF q f k st sf M i a b ∧ plF q f k st sf M i a b ≤ q
  | 0, _, a, b => by
    have := hT.q4
    unfold plF alikeFV
    split <;> omega
  | i + 1, h, a, b => by
    have := hT.q4
    have hi := h i (by omega)
    rw [plOk, mOk, Bool.and_eq_true] at hi
    exact goF_bd (by omega) (plF_bd hT i fun j hj => h j (by omega)) (isMv_in hi.1).2.2.2.1 hi.2 a b
theorem plF_out : ∀ i, (∀ j, j < i → plOk q f k st sf M j = true) → ∀ a b, ¬ (a < st.length ∧ b < k.toNat) → plF q f k st sf M i a b = q
  | 0, _, a, b, hn => by unfold plF alikeFV; rw [if_neg (by omega)]
  | i + 1, h, a, b, hn => by
    have hi := h i (by omega)
    rw [plOk, mOk, Bool.and_eq_true] at hi
    have hm := isMv_in hi.1
    exact (goF_same hn hm.2.1.2 hm.2.2.1.2).trans (plF_out i (fun j hj => h j (by omega)) a b hn)
theorem plS_le (hT : Trk q f k st sf) : ∀ i, plS q f k st sf M i ≤ i * 16
  | 0 => by simp [plS]
  | i + 1 => by
    have h1 := plS_le hT i
    have h2 := goL_len (q := q) (sf := sf) (F := plF q f k st sf M i) (p := (m0 (M.getD i [])).toNat) (t := (m1 (M.getD i [])).toNat) (face := m2 (M.getD i [])) hT.n4 hT.k4
    rw [plS, Nat.succ_mul]
    omega
/-- The rows of a stand. -/
def rowsOf (F : Nat → Nat → Int) (n K : Nat) : List (List Int) := (List.range n).map fun p => (List.range K).map (F p)
theorem rowsOf_len (F : Nat → Nat → Int) (n K : Nat) : (rowsOf F n K).length = n := by simp [rowsOf]
theorem rowsOf_row (F : Nat → Nat → Int) (n K : Nat) {p : Nat} (h : p < (rowsOf F n K).length) : (rowsOf F n K)[p].length = K := by simp [rowsOf]
theorem rowsOf_at (F : Nat → Nat → Int) (n K : Nat) {p t : Nat} (h : p < (rowsOf F n K).length) (h2 : t < (rowsOf F n K)[p].length) : (rowsOf F n K)[p][t] = F p t := by simp [rowsOf]
theorem stF_rows {F : Nat → Nat → Int} {n K : Nat} (ho : ∀ a b, ¬ (a < n ∧ b < K) → F a b = q) : stF q (rowsOf F n K) = F := by
  funext a b
  by_cases h : a < n ∧ b < K
  · have h1 : a < (rowsOf F n K).length := by rw [rowsOf_len]; exact h.1
    have h2 : b < (rowsOf F n K)[a].length := by rw [rowsOf_row]; exact h.2
    rw [stF_at h1 h2, rowsOf_at]
  · rw [ho a b h]
    unfold stF
    split
    · rename_i h1
      split
      · rename_i h2
        exact absurd ⟨by rw [rowsOf_len] at h1; exact h1, by rw [rowsOf_row] at h2; exact h2⟩ h
      · rfl
    · rfl
theorem sta_rows {F : Nat → Nat → Int} {n : Nat} (hk : 0 ≤ k) (hF : ∀ a b, -1 ≤ F a b ∧ F a b ≤ q) : Sta q k n (rowsOf F n k.toNat) :=
  ⟨rowsOf_len _ _ _, fun p h => by rw [rowsOf_row]; omega, fun p h t h2 => by rw [rowsOf_at]; exact hF p t⟩
end
theorem Grid.rows {w : World} {base : Nat} {t te : TypeId} {A : Option Addr} {n c K : Nat} {F : Nat → Nat → Int} {Bk C : Nat → Nat} (h : Grid w base t te (.slice A n c) n (fun _ => K) F Bk C) (hn : n ≤ 1048576) (hK : K ≤ 1048576) : RG w w.heap.size A (rowsOf F n K) := by
  have e : n = (rowsOf F n K).length := (rowsOf_len _ _ _).symm
  have h' : Grid w base t te (.slice A (rowsOf F n K).length c) (rowsOf F n K).length (fun _ => K) F Bk C := by rw [← e]; exact h
  exact h'.rg (by rw [rowsOf_len]; exact hn) fun y hy => ⟨(rowsOf_row _ _ _ hy).symm, by rw [rowsOf_row]; exact hK, fun j hj => (rowsOf_at _ _ _ hy hj).symm⟩
end Go.Proofs.Ytmhffdgfkgdmlaa
