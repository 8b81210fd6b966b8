/-
  Plain mathematics of chapter 1: boards. Nothing of the program.
-/
import Derived.Below
namespace Go.Proofs.Ytaooijpgkhbddaa

structure Bd where
  sq : Int
  fa : Int
  ov : Int
  js : List (Int × Int)

def inB (n lo hi : Int) : Bool := decide (lo ≤ n) && decide (n ≤ hi)
theorem inB_iff {n lo hi : Int} : inB n lo hi = true ↔ lo ≤ n ∧ n ≤ hi := by simp [inB]
theorem inB_false {n lo hi : Int} : inB n lo hi = false ↔ n < lo ∨ hi < n := by simp [inB]; omega

def jumpOf (js : List (Int × Int)) (sq : Int) : Int :=
  match js with
  | [] => sq
  | j :: t => if j.1 = sq then j.2 else jumpOf t sq
theorem jumpOf_drop (js : List (Int × Int)) (sq : Int) (k : Nat) (hk : k < js.length) : jumpOf (js.drop k) sq = if js[k].1 = sq then js[k].2 else jumpOf (js.drop (k+1)) sq := by
  rw [List.drop_eq_getElem_cons hk]; rfl

/-- The sizes of a board. -/
def sizes (b : Bd) : Bool := inB b.sq 1 100 && inB b.fa 1 8 && inB b.ov 0 2 && decide (b.js.length ≤ 20)
def okJump (s : Int) (j : Int × Int) : Bool := inB j.1 1 (s - 1) && inB j.2 0 s && !(j.1 == j.2)
/-- The jumps are ordered; p: the From before. -/
def chainB (p : Int) : List (Int × Int) → Bool
  | [] => true
  | j :: t => decide (p < j.1) && chainB j.1 t
/-- All jumps have their ends on the board and are ordered; p: the From before. -/
def jumpsOk (s p : Int) : List (Int × Int) → Bool
  | [] => true
  | j :: t => inB j.1 1 (s - 1) && inB j.2 0 s && !(j.1 == j.2) && decide (p < j.1) && jumpsOk s j.1 t
def prevFrom (js : List (Int × Int)) (k : Nat) : Int := if k = 0 then 0 else (js[k - 1]?.getD (0, 0)).1
def good (b : Bd) : Bool := sizes b && jumpsOk b.sq 0 b.js && b.js.all (fun j => jumpOf b.js j.2 == j.2)

theorem jumpsOk_eq (s : Int) : ∀ (js : List (Int × Int)) (p : Int), jumpsOk s p js = (js.all (okJump s) && chainB p js)
  | [], _ => rfl
  | j :: t, p => by
    rw [jumpsOk, jumpsOk_eq s t j.1, List.all_cons, chainB, okJump]
    cases inB j.1 1 (s - 1) <;> cases inB j.2 0 s <;> cases (j.1 == j.2) <;> cases (decide (p < j.1)) <;> cases (t.all (okJump s)) <;> rfl
theorem chainB_lt : ∀ (js : List (Int × Int)) (p : Int), chainB p js = true → ∀ j ∈ js, p < j.1
  | [], _, _, j, hj => by simp at hj
  | i :: t, p, h, j, hj => by
    simp only [chainB, Bool.and_eq_true, decide_eq_true_eq] at h
    rcases List.mem_cons.1 hj with rfl | hj
    · exact h.1
    · have := chainB_lt t i.1 h.2 j hj; omega

/-- Jumps as a map from From to To, a later one before an earlier one. -/
def updF (f : Int → Option Int) (x y : Int) : Int → Option Int := fun z => if z = x then some y else f z
def jfrom (js : List (Int × Int)) : Int → Option Int := js.foldl (fun f j => updF f j.1 j.2) (fun _ => none)
theorem jfrom_snoc (js : List (Int × Int)) (k : Nat) (hk : k < js.length) : jfrom (js.take (k + 1)) = updF (jfrom (js.take k)) js[k].1 js[k].2 := by
  rw [List.take_succ_eq_append_getElem hk, jfrom, List.foldl_append]; rfl
theorem jfrom_some_aux (x : Int) : ∀ (js : List (Int × Int)) (f : Int → Option Int), ((js.foldl (fun f j => updF f j.1 j.2) f) x).isSome = ((f x).isSome || js.any (fun j => j.1 == x))
  | [], f => by simp
  | j :: t, f => by
    rw [List.foldl_cons, jfrom_some_aux x t, List.any_cons, updF]
    by_cases h : x = j.1
    · subst h; simp
    · have h' : (j.1 == x) = false := by simpa using fun e => h e.symm
      simp [h, h']
theorem jfrom_some (js : List (Int × Int)) (x : Int) : (jfrom js x).isSome = js.any (fun j => j.1 == x) := by
  rw [jfrom, jfrom_some_aux]; simp

/-- What the program asks of the jumps. -/
def implOk (s : Int) (F : Int → Option Int) (p : Int) : List (Int × Int) → Bool
  | [] => true
  | j :: t => decide (p < j.1) && decide (j.1 < s) && inB j.2 0 s && !(F j.2).isSome && implOk s F j.1 t
theorem implOk_eq (s : Int) (F : Int → Option Int) : ∀ (js : List (Int × Int)) (p : Int), implOk s F p js = (js.all (fun j => decide (j.1 < s) && inB j.2 0 s && !(F j.2).isSome) && chainB p js)
  | [], _ => rfl
  | j :: t, p => by
    rw [implOk, implOk_eq s F t j.1, List.all_cons, chainB]
    cases decide (j.1 < s) <;> cases inB j.2 0 s <;> cases (F j.2).isSome <;> cases (decide (p < j.1)) <;> cases (t.all (fun j => decide (j.1 < s) && inB j.2 0 s && !(F j.2).isSome)) <;> rfl
theorem jumpOf_none : ∀ (js : List (Int × Int)) (x : Int), (∀ j ∈ js, j.1 ≠ x) → jumpOf js x = x
  | [], _, _ => rfl
  | j :: t, x, h => by
    rw [jumpOf, if_neg (h j (by simp)), jumpOf_none t x fun i hi => h i (by simp [hi])]
theorem jumpOf_hit : ∀ (js : List (Int × Int)) (x : Int), (∃ j ∈ js, j.1 = x) → ∃ j ∈ js, j.1 = x ∧ jumpOf js x = j.2
  | [], _, h => by obtain ⟨j, hj, _⟩ := h; simp at hj
  | i :: t, x, h => by
    by_cases hi : i.1 = x
    · exact ⟨i, by simp, hi, by rw [jumpOf, if_pos hi]⟩
    · obtain ⟨j, hj, e⟩ := h
      rcases List.mem_cons.1 hj with rfl | hj
      · exact absurd e hi
      · obtain ⟨j', hj', e', r⟩ := jumpOf_hit t x ⟨j, hj, e⟩
        exact ⟨j', by simp [hj'], e', by rw [jumpOf, if_neg hi, r]⟩
theorem sizes_iff {s f o : Int} {js : List (Int × Int)} : sizes ⟨s, f, o, js⟩ = true ↔ (1 ≤ s ∧ s ≤ 100) ∧ (1 ≤ f ∧ f ≤ 8) ∧ (0 ≤ o ∧ o ≤ 2) ∧ js.length ≤ 20 := by
  simp [sizes, inB_iff, and_assoc]
theorem good_bad {s f o : Int} {js : List (Int × Int)} (h : ¬ ((1 ≤ s ∧ s ≤ 100) ∧ (1 ≤ f ∧ f ≤ 8) ∧ (0 ≤ o ∧ o ≤ 2) ∧ js.length ≤ 20)) : good ⟨s, f, o, js⟩ = false := by
  have : sizes ⟨s, f, o, js⟩ = false := by rw [← Bool.not_eq_true, sizes_iff]; exact h
  rw [good, this]; rfl
theorem good_impl (b : Bd) : (sizes b && implOk b.sq (jfrom b.js) 0 b.js) = good b := by
  rw [good, implOk_eq, jumpsOk_eq, Bool.eq_iff_iff]
  simp only [Bool.and_eq_true, List.all_eq_true, okJump, decide_eq_true_eq, inB_iff, Bool.not_eq_true', beq_eq_false_iff_ne, ne_eq, beq_iff_eq]
  constructor
  · rintro ⟨hs, hall, hc⟩
    have hnone : ∀ j ∈ b.js, ∀ i ∈ b.js, i.1 ≠ j.2 := fun j hj i hi e => by
      have h1 := (hall j hj).2
      rw [jfrom_some, ← Bool.not_eq_true, List.any_eq_true] at h1
      exact h1 ⟨i, hi, by simpa using e⟩
    refine ⟨⟨hs, fun j hj => ?_, hc⟩, fun j hj => jumpOf_none _ _ (hnone j hj)⟩
    have h0 := chainB_lt _ _ hc j hj
    obtain ⟨⟨h1, h2⟩, _⟩ := hall j hj
    exact ⟨⟨⟨by omega, by omega⟩, h2⟩, hnone j hj j hj⟩
  · rintro ⟨⟨hs, hall, hc⟩, hto⟩
    refine ⟨hs, fun j hj => ?_, hc⟩
    obtain ⟨⟨⟨h1, h2⟩, h3⟩, h4⟩ := hall j hj
    refine ⟨⟨by omega, h3⟩, ?_⟩
    rw [jfrom_some, ← Bool.not_eq_true, List.any_eq_true]
    rintro ⟨i, hi, e⟩
    obtain ⟨i', hi', e', r⟩ := jumpOf_hit b.js j.2 ⟨i, hi, by simpa using e⟩
    exact (hall i' hi').2 (by rw [e', ← r, hto j hj])
theorem implOk_drop (s : Int) (F : Int → Option Int) (p : Int) (js : List (Int × Int)) (k : Nat) (hk : k < js.length) :
    implOk s F p (js.drop k) = (decide (p < js[k].1) && decide (js[k].1 < s) && inB js[k].2 0 s && !(F js[k].2).isSome && implOk s F js[k].1 (js.drop (k + 1))) := by
  rw [List.drop_eq_getElem_cons hk]; rfl
theorem implOk_bad {s : Int} {F : Int → Option Int} {p : Int} {js : List (Int × Int)} {k : Nat} (hk : k < js.length) (h : ¬ (p < js[k].1 ∧ js[k].1 < s ∧ 0 ≤ js[k].2 ∧ js[k].2 ≤ s) ∨ (F js[k].2).isSome = true) :
    implOk s F p (js.drop k) = false := by
  rw [implOk_drop _ _ _ _ _ hk]
  rcases h with h | h
  · by_cases h1 : p < js[k].1 <;> by_cases h2 : js[k].1 < s <;> by_cases h3 : inB js[k].2 0 s = true <;> simp [h1, h2, h3]
    exact absurd ⟨h1, h2, inB_iff.1 h3⟩ h
  · simp [h]
theorem prevFrom_succ (js : List (Int × Int)) (k : Nat) (hk : k < js.length) : prevFrom js (k + 1) = js[k].1 := by
  simp [prevFrom, List.getElem?_eq_getElem hk]
end Go.Proofs.Ytaooijpgkhbddaa
