/-
  Plain mathematics of chapter 7: moves. Nothing of the program.
-/
import Derived.Test.YtbheegdmamcgaabM61
namespace Go.Proofs.Ytbheegdmamcgaab

/-- A token with x steps can go by a face. -/
def canB (q f x face : Int) : Bool := if x < 0 then face == f else decide (x < q) && decide (x + face ≤ q)
/-- Its steps then. -/
def newX (x face : Int) : Int := if x < 0 then 0 else x + face
theorem newX_ne {x face : Int} (h1 : 1 ≤ face) : newX x face ≠ x := by unfold newX; split <;> omega
theorem newX_bd {q f x face : Int} (hq : 0 ≤ q) (h1 : 1 ≤ face) (h : canB q f x face = true) : 0 ≤ newX x face ∧ newX x face ≤ q := by
  unfold newX
  unfold canB at h
  by_cases hx : x < 0
  · rw [if_pos hx]; omega
  · rw [if_neg hx] at h ⊢
    simp at h
    omega
/-- Some tokens are at home. -/
def homeF (F : Nat → Nat → Int) (P : List (Int × Int)) (a b : Nat) : Int := if P.any (fun c => c.1 == (a : Int) && c.2 == (b : Int)) = true then -1 else F a b
theorem homeF_nil (F : Nat → Nat → Int) : homeF F [] = F := rfl
theorem homeF_snoc (F : Nat → Nat → Int) (P : List (Int × Int)) (x y a b : Nat) : homeF F (P ++ [((x : Int), (y : Int))]) a b = if a = x ∧ b = y then -1 else homeF F P a b := by
  unfold homeF
  rw [List.any_append]
  by_cases e : a = x ∧ b = y
  · rw [if_pos e, e.1, e.2]; simp
  · rw [if_neg e]
    have : ([((x : Int), (y : Int))].any (fun c => c.1 == (a : Int) && c.2 == (b : Int))) = false := by
      simp; omega
    rw [this, Bool.or_false]
def updX (F : Nat → Nat → Int) (p t : Nat) (v : Int) : Nat → Nat → Int := fun a b => if a = p ∧ b = t then v else F a b
/-- The tokens that a move sends home. -/
def goL (q k : Int) (st sf : List Int) (F : Nat → Nat → Int) (p t : Nat) (face : Int) : List (Int × Int) :=
  if inB (newX (F p t) face) 0 (q - 1) = true then sentL (safeB sf (sqr q st p (newX (F p t) face)).toNat) (pawnsL q k st (updX F p t (newX (F p t) face)) (sqr q st p (newX (F p t) face))) (p : Int) else []
/-- The steps behind a move. -/
def goF (q k : Int) (st sf : List Int) (F : Nat → Nat → Int) (p t : Nat) (face : Int) : Nat → Nat → Int :=
  homeF (updX F p t (newX (F p t) face)) (goL q k st sf F p t face)
theorem goL_out {q k : Int} {st sf : List Int} {F : Nat → Nat → Int} {p t : Nat} {face : Int} (h : inB (newX (F p t) face) 0 (q - 1) = false) : goL q k st sf F p t face = [] := by rw [goL, h]; rfl
theorem goL_in {q k : Int} {st sf : List Int} {F : Nat → Nat → Int} {p t : Nat} {face : Int} (h : inB (newX (F p t) face) 0 (q - 1) = true) : goL q k st sf F p t face = sentL (safeB sf (sqr q st p (newX (F p t) face)).toNat) (pawnsL q k st (updX F p t (newX (F p t) face)) (sqr q st p (newX (F p t) face))) (p : Int) := by rw [goL, if_pos h]
theorem goL_len {q k : Int} {st sf : List Int} {F : Nat → Nat → Int} {p t : Nat} {face : Int} (hn : st.length ≤ 4) (hk : k ≤ 4) : (goL q k st sf F p t face).length ≤ 16 := by
  cases h : inB (newX (F p t) face) 0 (q - 1)
  · rw [goL_out h]; simp
  · rw [goL_in h]; exact Nat.le_trans (sentL_len _ _ _) (pawnsL_len hn hk)
theorem sentL_mem {S : Bool} {q k : Int} {st : List Int} {F : Nat → Nat → Int} {s p : Int} {a : Int × Int} (h : a ∈ sentL S (pawnsL q k st F s) p) : ∃ x y : Nat, x < st.length ∧ y < k.toNat ∧ a = ((x : Int), (y : Int)) ∧ (x : Int) ≠ p := by
  cases S
  · rw [sentL_not, List.mem_filter] at h
    obtain ⟨x, y, hx, hy, _, e⟩ := pawnsL_mem.1 h.1
    refine ⟨x, y, hx, hy, e, ?_⟩
    have := h.2
    rw [e] at this
    simpa using this
  · simp [sentL] at h
theorem goL_mem {q k : Int} {st sf : List Int} {F : Nat → Nat → Int} {p t : Nat} {face : Int} {a : Int × Int} (hm : a ∈ goL q k st sf F p t face) : ∃ x y : Nat, x < st.length ∧ y < k.toNat ∧ a = ((x : Int), (y : Int)) ∧ (x : Int) ≠ (p : Int) := by
  cases hb : inB (newX (F p t) face) 0 (q - 1)
  · rw [goL_out hb] at hm; simp at hm
  · rw [goL_in hb] at hm
    exact sentL_mem hm
theorem goL_at {q k : Int} {st sf : List Int} {F : Nat → Nat → Int} {p t : Nat} {face : Int} {i : Nat} (h : i < (goL q k st sf F p t face).length) : ∃ x y : Nat, x < st.length ∧ y < k.toNat ∧ (goL q k st sf F p t face)[i] = ((x : Int), (y : Int)) ∧ (x : Int) ≠ (p : Int) := goL_mem (List.getElem_mem h)
end Go.Proofs.Ytbheegdmamcgaab
