/-
  Plain mathematics of chapter 7: round tracks, their starts and safe squares. Nothing of the program.
-/
import Derived.Test.YtbheegdmamcgaabM1
namespace Go.Proofs.Ytbheegdmamcgaab

/-- The list has this number. -/
def hasB (xs : List Int) (x : Int) : Bool := xs.contains x
theorem hasB_nil (x : Int) : hasB [] x = false := rfl
theorem hasB_cons (y : Int) (t : List Int) (x : Int) : hasB (y :: t) x = (x == y || hasB t x) := List.contains_cons
theorem hasB_app (s t : List Int) (x : Int) : hasB (s ++ t) x = (hasB s x || hasB t x) := List.contains_append
theorem hasB_iff {xs : List Int} {x : Int} : hasB xs x = true ↔ x ∈ xs := List.contains_iff_mem
/-- All numbers are in lo..hi. -/
def allB (lo hi : Int) : List Int → Bool
  | [] => true
  | x :: t => inB x lo hi && allB lo hi t
theorem allB_cons (lo hi x : Int) (t : List Int) : allB lo hi (x :: t) = (inB x lo hi && allB lo hi t) := rfl
theorem allB_iff {lo hi : Int} : ∀ {l : List Int}, allB lo hi l = true ↔ ∀ x ∈ l, lo ≤ x ∧ x ≤ hi
  | [] => by simp [allB]
  | x :: t => by simp [allB, inB_iff, allB_iff]
/-- The squares rise, each in 0..hi; p: the one before. -/
def riseB (p hi : Int) : List Int → Bool
  | [] => true
  | x :: t => decide (p < x) && inB x 0 hi && riseB x hi t
/-- No number comes twice; seen: those before. -/
def freshB (seen : List Int) : List Int → Bool
  | [] => true
  | x :: t => !(hasB seen x) && freshB (seen ++ [x]) t
def startsB (hi : Int) (seen : List Int) : List Int → Bool
  | [] => true
  | x :: t => inB x 0 hi && !(hasB seen x) && startsB hi (seen ++ [x]) t
theorem startsB_eq (hi : Int) : ∀ (l seen : List Int), startsB hi seen l = (allB 0 hi l && freshB seen l)
  | [], _ => rfl
  | x :: t, seen => by
    rw [startsB, freshB, allB, startsB_eq hi t]
    cases inB x 0 hi <;> cases hasB seen x <;> cases allB 0 hi t <;> cases freshB (seen ++ [x]) t <;> rfl
theorem startsB_drop {hi : Int} {st : List Int} {k : Nat} (h : k < st.length) : startsB hi (st.take k) (st.drop k) = (inB st[k] 0 hi && !(hasB (st.take k) st[k]) && startsB hi (st.take (k + 1)) (st.drop (k + 1))) := by
  rw [List.drop_eq_getElem_cons h, startsB, List.take_succ_eq_append_getElem h]
theorem freshB_drop {st : List Int} {k : Nat} (h : k < st.length) : freshB (st.take k) (st.drop k) = (!(hasB (st.take k) st[k]) && freshB (st.take (k + 1)) (st.drop (k + 1))) := by
  rw [List.drop_eq_getElem_cons h, freshB, List.take_succ_eq_append_getElem h]
/-- The one before the k-th. -/
def lastI (xs : List Int) (k : Nat) : Int := if k = 0 then -1 else xs[k - 1]?.getD 0
theorem riseB_drop {hi : Int} {xs : List Int} {k : Nat} (h : k < xs.length) : riseB (lastI xs k) hi (xs.drop k) = (decide (lastI xs k < xs[k]) && inB xs[k] 0 hi && riseB (lastI xs (k + 1)) hi (xs.drop (k + 1))) := by
  rw [List.drop_eq_getElem_cons h, riseB, show lastI xs (k + 1) = xs[k] by simp [lastI, List.getElem?_eq_getElem h]]
theorem lastI_pos {xs : List Int} {k : Nat} (h0 : 0 < k) (h : k < xs.length) : lastI xs k = xs[k - 1] := by
  simp [lastI, show ¬ k = 0 by omega, List.getElem?_eq_getElem (show k - 1 < xs.length by omega)]
theorem riseB_len {hi : Int} : ∀ (xs : List Int) (p : Int), riseB p hi xs = true → p ≤ hi → (xs.length : Int) ≤ hi - p
  | [], p, _, h => by simp; omega
  | x :: t, p, h, _ => by
    simp only [riseB, Bool.and_eq_true, decide_eq_true_eq, inB_iff] at h
    have := riseB_len t x h.2 h.1.2.2
    simp
    omega
theorem riseB_all {hi : Int} : ∀ (xs : List Int) (p : Int), riseB p hi xs = true → ∀ x ∈ xs, 0 ≤ x ∧ x ≤ hi
  | [], _, _, x, hx => by simp at hx
  | y :: t, p, h, x, hx => by
    simp only [riseB, Bool.and_eq_true, decide_eq_true_eq, inB_iff] at h
    rcases List.mem_cons.1 hx with rfl | hx
    · exact h.1.2
    · exact riseB_all t y h.2 x hx

/-- The sizes of a track. -/
def trkSizes (q f k : Int) (n : Nat) : Bool := inB q 4 60 && inB f 1 8 && inB k 1 4 && inB (n : Int) 2 4
/-- There is such a track. -/
def trkOk (q f k : Int) (st sf : List Int) : Bool := trkSizes q f k st.length && startsB (q - 1) [] st && riseB (-1) (q - 1) sf
theorem trkSizes_iff {q f k : Int} {n : Nat} : trkSizes q f k n = true ↔ (4 ≤ q ∧ q ≤ 60) ∧ (1 ≤ f ∧ f ≤ 8) ∧ (1 ≤ k ∧ k ≤ 4) ∧ 2 ≤ n ∧ n ≤ 4 := by
  simp only [trkSizes, Bool.and_eq_true, inB_iff, and_assoc]; omega
theorem startsB_all {hi : Int} {l seen : List Int} (h : startsB hi seen l = true) : ∀ x ∈ l, 0 ≤ x ∧ x ≤ hi := by
  rw [startsB_eq, Bool.and_eq_true, allB_iff] at h
  exact h.1

/-- What a track that there is gives: plain numbers. -/
structure Trk (q f k : Int) (st sf : List Int) : Prop where
  q4 : 4 ≤ q
  q60 : q ≤ 60
  f1 : 1 ≤ f
  f8 : f ≤ 8
  k1 : 1 ≤ k
  k4 : k ≤ 4
  n2 : 2 ≤ st.length
  n4 : st.length ≤ 4
  st0 : ∀ p (h : p < st.length), 0 ≤ st[p] ∧ st[p] < q
  sf0 : ∀ x ∈ sf, 0 ≤ x ∧ x < q
  sfl : sf.length ≤ 60
theorem trk_of {q f k : Int} {st sf : List Int} (h : trkOk q f k st sf = true) : Trk q f k st sf := by
  simp only [trkOk, Bool.and_eq_true] at h
  obtain ⟨⟨h1, h2⟩, h3⟩ := h
  have := trkSizes_iff.1 h1
  refine ⟨this.1.1, this.1.2, this.2.1.1, this.2.1.2, this.2.2.1.1, this.2.2.1.2, this.2.2.2.1, this.2.2.2.2, fun p hp => ?_, fun x hx => ?_, ?_⟩
  · have := startsB_all h2 _ (List.getElem_mem hp); omega
  · have := riseB_all sf _ h3 x hx; omega
  · have := riseB_len sf _ h3 (by omega); omega
/-- Whether a square is safe. -/
def safeB (sf : List Int) (i : Nat) : Bool := hasB sf (i : Int)
theorem safe_step {sf : List Int} {j : Nat} (h : j < sf.length) {x : Nat} (hx : sf[j] = (x : Int)) (i : Nat) : (if i = x then true else safeB (sf.take j) i) = safeB (sf.take (j + 1)) i := by
  rw [safeB, safeB, List.take_succ_eq_append_getElem h, hx, hasB_app]
  by_cases e : i = x
  · subst e; simp [hasB_cons]
  · have e2 : ¬ (i : Int) = (x : Int) := by omega
    simp [e, hasB_cons, hasB_nil, e2]
end Go.Proofs.Ytbheegdmamcgaab
