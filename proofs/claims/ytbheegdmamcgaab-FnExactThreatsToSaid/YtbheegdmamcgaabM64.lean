/-
  Plain mathematics of chapter 7: threats. Nothing of the program.
-/
import Derived.Test.YtbheegdmamcgaabM63
namespace Go.Proofs.Ytbheegdmamcgaab

/-- The move of token t of player o by the face j + 1 sends the token (a, b) home. -/
def thr1 (q f k : Int) (st sf : List Int) (F : Nat → Nat → Int) (a b o t j : Nat) : Bool := canB q f (F o t) ((j : Int) + 1) && (goF q k st sf F o t ((j : Int) + 1) a b != F a b)
/-- One of the first m moves of a player does; n faces. -/
def thrO (c : Nat → Nat → Bool) (n : Nat) : Nat → Bool
  | 0 => false
  | m + 1 => thrO c n m || c (m / n) (m % n)
/-- One of the moves of the first o players but player a does; M moves each. -/
def thrA (c : Nat → Nat → Nat → Bool) (n M a : Nat) : Nat → Bool
  | 0 => false
  | o + 1 => thrA c n M a o || (!(o == a) && thrO (c o) n M)
theorem thrO_at {c : Nat → Nat → Bool} {n t j : Nat} (hj : j < n) : thrO c n (t * n + j + 1) = (thrO c n (t * n + j) || c t j) := by
  have h1 : (t * n + j) / n = t := by
    rw [Nat.mul_comm, Nat.mul_add_div (by omega), Nat.div_eq_of_lt hj, Nat.add_zero]
  have h2 : (t * n + j) % n = j := by
    rw [Nat.mul_comm, Nat.mul_add_mod, Nat.mod_eq_of_lt hj]
  rw [thrO, h1, h2]
theorem thrO_up {c : Nat → Nat → Bool} {n m : Nat} (h : thrO c n m = true) : ∀ M, m ≤ M → thrO c n M = true
  | 0, hm => by obtain rfl : m = 0 := by omega
                exact h
  | M + 1, hm => by
    by_cases e : m = M + 1
    · rw [← e]; exact h
    · rw [thrO, thrO_up h M (by omega), Bool.true_or]
theorem thrA_up {c : Nat → Nat → Nat → Bool} {n M a o : Nat} (h : thrA c n M a o = true) : ∀ N, o ≤ N → thrA c n M a N = true
  | 0, ho => by obtain rfl : o = 0 := by omega
                exact h
  | N + 1, ho => by
    by_cases e : o = N + 1
    · rw [← e]; exact h
    · rw [thrA, thrA_up h N (by omega), Bool.true_or]
theorem thrA_hit {c : Nat → Nat → Nat → Bool} {n M a o m N : Nat} (hne : o ≠ a) (hm : m ≤ M) (ho : o < N) (h : thrO (c o) n m = true) : thrA c n M a N = true := by
  refine thrA_up (o := o + 1) ?_ N ho
  rw [thrA, thrO_up h M hm]
  simp [hne]
theorem thrA_next {c : Nat → Nat → Nat → Bool} {n M a o : Nat} (h : thrA c n M a o = false) (hO : o = a ∨ thrO (c o) n M = false) : thrA c n M a (o + 1) = false := by
  rw [thrA, h, Bool.false_or]
  rcases hO with e | e
  · simp [e]
  · simp [e]
theorem thrA_none {c : Nat → Nat → Nat → Bool} {n M a : Nat} (h : ∀ o t j, o ≠ a → c o t j = false) : ∀ N, thrA c n M a N = false
  | 0 => rfl
  | N + 1 => by
    refine thrA_next (thrA_none h N) ?_
    by_cases e : N = a
    · exact .inl e
    · refine .inr ?_
      have : ∀ m, thrO (c N) n m = false := fun m => by
        induction m with
        | zero => rfl
        | succ m ih => rw [thrO, ih, h _ _ _ e]; rfl
      exact this M
section
variable {q f k : Int} {st sf : List Int} {F : Nat → Nat → Int} {a b o t : Nat} {face : Int}
/-- A token that is on no square is not sent home. -/
theorem goF_off (hne : o ≠ a) (h : inB (F a b) 0 (q - 1) = false) (hq : 0 < q) : goF q k st sf F o t face a b = F a b := by
  have e : updX F o t (newX (F o t) face) a b = F a b := by unfold updX; rw [if_neg (by omega)]
  unfold goF homeF
  rw [if_neg ?_, e]
  intro hany
  rw [List.any_eq_true] at hany
  obtain ⟨p, hp, hpe⟩ := hany
  cases hb : inB (newX (F o t) face) 0 (q - 1)
  · rw [goL_out hb] at hp; simp at hp
  · rw [goL_in hb] at hp
    have h0 := (sqr_lt (st := st) (p := o) hq hb).1
    cases hS : safeB sf (sqr q st o (newX (F o t) face)).toNat
    · rw [hS, sentL_not, List.mem_filter] at hp
      obtain ⟨x, y, _, _, hon, e2⟩ := pawnsL_mem.1 hp.1
      rw [e2] at hpe
      simp at hpe
      obtain rfl : x = a := by omega
      obtain rfl : y = b := by omega
      unfold onS at hon
      rw [e, sqr_out h] at hon
      simp at hon
      omega
    · rw [hS] at hp; simp [sentL] at hp
/-- A token on a square is below 0 behind the move just if it has been sent home. -/
theorem goF_on (hne : o ≠ a) (h : inB (F a b) 0 (q - 1) = true) : decide (goF q k st sf F o t face a b < 0) = (goF q k st sf F o t face a b != F a b) := by
  have h0 := (inB_iff.1 h).1
  have e : updX F o t (newX (F o t) face) a b = F a b := by unfold updX; rw [if_neg (by omega)]
  unfold goF homeF
  split
  · have h2 : ((-1 : Int) != F a b) = true := by simp; omega
    rw [h2]; rfl
  · rw [e]
    have h2 : ¬ F a b < 0 := by omega
    simp [h2]
theorem thr1_no {j : Nat} (h : canB q f (F o t) ((j : Int) + 1) = false) : thr1 q f k st sf F a b o t j = false := by rw [thr1, h]; rfl
theorem thr1_off {j : Nat} (hne : o ≠ a) (h : inB (F a b) 0 (q - 1) = false) (hq : 0 < q) : thr1 q f k st sf F a b o t j = false := by
  rw [thr1, goF_off hne h hq]; simp
theorem thr1_on {j : Nat} (hne : o ≠ a) (h : inB (F a b) 0 (q - 1) = true) (hc : canB q f (F o t) ((j : Int) + 1) = true) : thr1 q f k st sf F a b o t j = decide (goF q k st sf F o t ((j : Int) + 1) a b < 0) := by
  rw [thr1, hc, Bool.true_and, goF_on hne h]
end
/-- All that is asked of a threat. -/
def thrB (q f k : Int) (st sf : List Int) (F : Nat → Nat → Int) (a b : Nat) : Bool := thrA (fun o t j => thr1 q f k st sf F a b o t j) f.toNat (k.toNat * f.toNat) a st.length
theorem thrB_off {q f k : Int} {st sf : List Int} {F : Nat → Nat → Int} {a b : Nat} (h : inB (F a b) 0 (q - 1) = false) (hq : 0 < q) : thrB q f k st sf F a b = false :=
  thrA_none (fun _ _ _ hne => thr1_off hne h hq) _
/-- The tokens below n that are threatened. -/
def thrL (B : Nat → Bool) : Nat → List Int
  | 0 => []
  | n + 1 => thrL B n ++ (if B n = true then [(n : Int)] else [])
theorem thrL_succ (B : Nat → Bool) (n : Nat) : thrL B (n + 1) = thrL B n ++ (if B n = true then [(n : Int)] else []) := rfl
theorem thrL_len (B : Nat → Bool) : ∀ n, (thrL B n).length ≤ n
  | 0 => Nat.le_refl _
  | n + 1 => by
    have := thrL_len B n
    rw [thrL_succ, List.length_append]
    split <;> simp <;> omega
/-- The cells of the first m moves of player p; n faces. -/
def mvsC (p : Int) (n m : Nat) : List Value := (List.range m).flatMap fun i => [.int .i64 p, .int .i64 ((i / n : Nat) : Int), .int .i64 (((i % n : Nat) : Int) + 1)]
theorem mvsC_succ (p : Int) (n m : Nat) : mvsC p n (m + 1) = mvsC p n m ++ [.int .i64 p, .int .i64 ((m / n : Nat) : Int), .int .i64 (((m % n : Nat) : Int) + 1)] := by
  simp [mvsC, List.range_succ]
theorem mvsC_len (p : Int) (n : Nat) : ∀ m, (mvsC p n m).length = m * 3
  | 0 => rfl
  | m + 1 => by rw [mvsC_succ, List.length_append, mvsC_len p n m]; simp; omega
theorem mvsC_next (p : Int) {n t j : Nat} (hj : j < n) : mvsC p n (t * n + j + 1) = mvsC p n (t * n + j) ++ [.int .i64 p, .int .i64 (t : Int), .int .i64 ((j : Int) + 1)] := by
  have h1 : (t * n + j) / n = t := by
    rw [Nat.mul_comm, Nat.mul_add_div (by omega), Nat.div_eq_of_lt hj, Nat.add_zero]
  have h2 : (t * n + j) % n = j := by
    rw [Nat.mul_comm, Nat.mul_add_mod, Nat.mod_eq_of_lt hj]
  rw [mvsC_succ, h1, h2]
theorem mvsC_at (p : Int) (n : Nat) : ∀ {M m : Nat}, m < M → (mvsC p n M)[m * 3]? = some (.int .i64 p) ∧ (mvsC p n M)[m * 3 + 1]? = some (.int .i64 ((m / n : Nat) : Int)) ∧ (mvsC p n M)[m * 3 + 2]? = some (.int .i64 (((m % n : Nat) : Int) + 1))
  | 0, _, h => by omega
  | M + 1, m, h => by
    have hl := mvsC_len p n M
    rw [mvsC_succ]
    by_cases e : m = M
    · subst e
      rw [List.getElem?_append_right (by omega), List.getElem?_append_right (by omega), List.getElem?_append_right (by omega), hl]
      refine ⟨by simp, ?_, ?_⟩
      · rw [show m * 3 + 1 - m * 3 = 1 by omega]; rfl
      · rw [show m * 3 + 2 - m * 3 = 2 by omega]; rfl
    · rw [List.getElem?_append_left (by omega), List.getElem?_append_left (by omega), List.getElem?_append_left (by omega)]
      exact mvsC_at p n (by omega)
end Go.Proofs.Ytbheegdmamcgaab
