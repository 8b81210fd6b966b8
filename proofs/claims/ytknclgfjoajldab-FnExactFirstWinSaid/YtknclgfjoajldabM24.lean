/-
  Races: the search back from where who has won. Plain mathematics.
-/
import Derived.Test.YtknclgfjoajldabM23
namespace Go.Proofs.Ytknclgfjoajldab

section
variable (nx : Nat → Nat → Nat) (won : Nat → Int) (m : Nat) (who : Int) (q0 R : Nat)
/-- From the root to where who has won; from a state to those that a throw leads from to it. All of them are reached. -/
def eR (z y : Nat) : Prop := (z = R ∧ Rch nx m q0 y ∧ won y = who) ∨ (z ≠ R ∧ Rch nx m q0 y ∧ won y = 0 ∧ ∃ face, 1 ≤ face ∧ face ≤ m ∧ nx y face = z)
variable {nx won m who q0 R}
theorem way_eR (hR : ∀ z, Rch nx m q0 z → z ≠ R) : ∀ (t z : Nat), Way (eR nx won m who q0 R) R (t + 1) z ↔ Rch nx m q0 z ∧ ∃ xs, xs.length = t ∧ WinL nx won m who z xs := by
  intro t
  induction t with
  | zero =>
    intro z
    constructor
    · intro h
      cases h with
      | step h e =>
        cases h
        rcases e with ⟨_, h1, h2⟩ | ⟨h, _⟩
        · exact ⟨h1, [], rfl, .nil h2⟩
        · exact absurd rfl h
    · rintro ⟨h1, xs, hl, hx⟩
      cases hx with
      | nil h => exact Way.refl.step (.inl ⟨rfl, h1, h⟩)
      | cons => simp at hl
  | succ t ih =>
    intro z
    constructor
    · intro h
      cases h with
      | @step _ x _ h e =>
        obtain ⟨hx, xs, hl, hw⟩ := (ih x).1 h
        rcases e with ⟨e, _⟩ | ⟨_, h1, h2, face, h3, h4, h5⟩
        · exact absurd e (hR x hx)
        · exact ⟨h1, face :: xs, by simp [hl], .cons h2 h3 h4 (by rw [h5]; exact hw)⟩
    · rintro ⟨h1, xs, hl, hx⟩
      cases hx with
      | nil => simp at hl
      | @cons _ face ys h0 k1 k2 hs =>
        have hr := h1.step k1 k2
        exact ((ih _).2 ⟨hr, ys, by simpa using hl, hs⟩).step (.inr ⟨hR _ hr, h1, h0, face, k1, k2, rfl⟩)
theorem way_root (hR : ∀ z, Rch nx m q0 z → z ≠ R) {t : Nat} (h : Way (eR nx won m who q0 R) R t R) : t = 0 := by
  cases h with
  | refl => rfl
  | step h e => rcases e with ⟨_, h1, _⟩ | ⟨_, h1, _⟩ <;> exact absurd rfl (hR R h1)
theorem least_eR (hR : ∀ z, Rch nx m q0 z → z ≠ R) {z L : Nat} (hz : Rch nx m q0 z) (h : Least (fun t => Way (eR nx won m who q0 R) R t z) L) : 1 ≤ L ∧ DistW nx won m who z (L - 1) := by
  have h1 : 1 ≤ L := by
    rcases Nat.eq_zero_or_pos L with e | e
    · subst e
      have := h.1
      generalize hzz : z = zz at this
      cases this
      exact absurd hzz (hR z hz)
    · exact e
  obtain ⟨l, rfl⟩ : ∃ l, L = l + 1 := ⟨L - 1, by omega⟩
  refine ⟨h1, ?_⟩
  simp only [Nat.add_sub_cancel]
  refine ⟨((way_eR hR l z).1 h.1).2, fun t' ht' => ?_⟩
  have := h.2 (t' + 1) ((way_eR hR t' z).2 ⟨hz, ht'⟩)
  omega
theorem none_eR (hR : ∀ z, Rch nx m q0 z → z ≠ R) {z : Nat} (hz : Rch nx m q0 z) (h : ∀ t, ¬ Way (eR nx won m who q0 R) R t z) (ys : List Nat) : ¬ WinL nx won m who z ys := fun hy =>
  h (ys.length + 1) ((way_eR hR _ z).2 ⟨hz, ys, rfl, hy⟩)
end
section
variable {nx : Nat → Nat → Nat} {won : Nat → Int} {m : Nat} {who : Int} {q0 R : Nat} {ok : Nat → Prop} {F : Nat → Bool} {L : Nat → Nat}
/-- The states where who has won lie behind the root, in the order of the queue. -/
theorem eR_begin (Q : List Nat) (hq : Q.Nodup) (hQ : ∀ z, z ∈ Q ↔ Rch nx m q0 z) (hR : ∀ z, Rch nx m q0 z → z ≠ R) (hokR : ok R) (hok : ∀ z, Rch nx m q0 z → ok z) : ∀ k ≤ Q.length,
    Bfs (eR nx won m who q0 R) ok R (fun i => i == R || ((Q.take k).filter fun z => won z == who).contains i) (fun i => if i ∈ ((Q.take k).filter fun z => won z == who) then 1 else 0) [] (R :: (Q.take k).filter fun z => won z == who) ∧
    ∀ z, (z == R || ((Q.take k).filter fun z => won z == who).contains z) = true → Least (fun t => Way (eR nx won m who q0 R) R t z) (if z ∈ ((Q.take k).filter fun z => won z == who) then 1 else 0) := by
  intro k
  induction k with
  | zero =>
    intro _
    have e1 : (fun i : Nat => i == R || ((Q.take 0).filter fun z => won z == who).contains i) = fun i => i == R := by funext i; simp
    have e2 : (fun i : Nat => if i ∈ ((Q.take 0).filter fun z => won z == who) then 1 else 0) = fun _ => 0 := by funext i; simp
    rw [e1, e2]
    refine ⟨by simpa using Bfs.start hokR, fun z hz => ?_⟩
    have : z = R := by simpa using hz
    subst this
    simpa using least_start (eR nx won m who q0 z) z z (by simp)
  | succ k ih =>
    intro hk
    obtain ⟨hB, hL⟩ := ih (by omega)
    have hsn := filter_snoc (fun z => won z == who) Q k (by omega)
    rw [hsn]
    by_cases hw : won Q[k] = who
    · have hp : (won Q[k] == who) = true := by simpa using hw
      simp only [hp, if_true]
      have hr := (hQ Q[k]).1 (List.getElem_mem _)
      have hnm : Q[k] ∉ Q.take k := by
        intro hm
        obtain ⟨i, hi, he⟩ := List.getElem_of_mem hm
        have hik : i < k := by simp at hi; omega
        have hpw := List.pairwise_iff_getElem.1 hq i k (by omega) (by omega) hik
        apply hpw
        simpa using he
      have hnf : Q[k] ∉ (Q.take k).filter fun z => won z == who := fun h => hnm (List.mem_filter.1 h).1
      have hF : (Q[k] == R || ((Q.take k).filter fun z => won z == who).contains Q[k]) = false := by
        have := hR _ hr
        simp only [Bool.or_eq_false_iff, beq_eq_false_iff_ne]
        refine ⟨this, ?_⟩
        simpa using fun h => absurd h hnm
      have he : eR nx won m who q0 R R Q[k] := .inl ⟨rfl, hr, hw⟩
      have hpush := hB.push he (hok _ hr) hF
      have hleast := fun z hz => hB.push_least he hF hL z hz
      have hRn : R ∉ (Q.take k).filter fun z => won z == who := fun h => absurd rfl (hR R ((hQ R).1 (List.mem_of_mem_take (List.mem_filter.1 h).1)))
      have e1 : setB (fun i => i == R || ((Q.take k).filter fun z => won z == who).contains i) Q[k] = fun i => i == R || (((Q.take k).filter fun z => won z == who) ++ [Q[k]]).contains i := by
        funext i
        unfold setB
        by_cases e : i = Q[k]
        · rw [if_pos e, e]; simp
        · rw [if_neg e]; simp [e]
      have e2 : setN (fun i => if i ∈ ((Q.take k).filter fun z => won z == who) then 1 else 0) Q[k] ((if R ∈ ((Q.take k).filter fun z => won z == who) then 1 else 0) + 1) = fun i => if i ∈ (((Q.take k).filter fun z => won z == who) ++ [Q[k]]) then 1 else 0 := by
        funext i
        unfold setN
        rw [if_neg hRn]
        by_cases e : i = Q[k]
        · rw [if_pos e, e]; simp
        · rw [if_neg e]
          simp only [List.mem_append, List.mem_singleton, e, or_false]
      rw [e1, e2] at hpush
      refine ⟨hpush, fun z hz => ?_⟩
      have h1 := congrFun e1 z
      have h2 := congrFun e2 z
      have := hleast z (by rw [h1]; exact hz)
      rw [h2] at this
      exact this
    · have hp : (won Q[k] == who) = false := by simpa using hw
      simp only [hp, Bool.false_eq_true, if_false, List.append_nil]
      exact ⟨hB, hL⟩
end
/-- The table of the search back. -/
def farW (F : Nat → Bool) (L : Nat → Nat) (z : Nat) : Int := if F z then ((L z : Nat) : Int) - 1 else -1
/-- Where who has won, among the first k of the queue. -/
def srcQ (won : Nat → Int) (who : Int) (Q : List Nat) (k : Nat) : List Nat := (Q.take k).filter fun z => won z == who
def srcF (n : Nat) (S : List Nat) : Nat → Bool := fun i => i == n || S.contains i
def srcL (S : List Nat) : Nat → Nat := fun i => if i ∈ S then 1 else 0
theorem farW_src {n : Nat} {S : List Nat} {i : Nat} (hi : i < n) : farW (srcF n S) (srcL S) i = if i ∈ S then 0 else -1 := by
  have h : (i == n) = false := by simp; omega
  unfold farW srcF srcL
  rw [h, Bool.false_or]
  by_cases e : i ∈ S <;> simp [e]
theorem srcQ_snoc (won : Nat → Int) (who : Int) (Q : List Nat) (k : Nat) (hk : k < Q.length) : srcQ won who Q (k + 1) = srcQ won who Q k ++ if won Q[k] = who then [Q[k]] else [] := by
  unfold srcQ
  rw [filter_snoc _ _ _ hk]
  by_cases e : won Q[k] = who <;> simp [e]
theorem srcQ_len (won : Nat → Int) (who : Int) (Q : List Nat) (k : Nat) : (srcQ won who Q k).length ≤ k := by
  unfold srcQ
  have := List.length_filter_le (fun z => won z == who) (Q.take k)
  have h2 : (Q.take k).length ≤ k := List.length_take_le _ _
  omega
section
variable {nx : Nat → Nat → Nat} {won : Nat → Int} {m : Nat} {who : Int} {q0 R : Nat} {ok : Nat → Prop}
/-- The search back begins: the root is done, the sources are to do. -/
theorem eR_start (Q : List Nat) (hq : Q.Nodup) (hQ : ∀ z, z ∈ Q ↔ Rch nx m q0 z) (hR : ∀ z, Rch nx m q0 z → z ≠ R) (hokR : ok R) (hok : ∀ z, Rch nx m q0 z → ok z) :
    Bfs (eR nx won m who q0 R) ok R (srcF R (srcQ won who Q Q.length)) (srcL (srcQ won who Q Q.length)) [R] (srcQ won who Q Q.length) ∧
    (∀ z, srcF R (srcQ won who Q Q.length) z = true → Least (fun t => Way (eR nx won m who q0 R) R t z) (srcL (srcQ won who Q Q.length) z)) ∧ ∀ z, srcL (srcQ won who Q Q.length) z ≤ (srcQ won who Q Q.length).length := by
  obtain ⟨h1, h2⟩ := eR_begin (who := who) (won := won) Q hq hQ hR hokR hok Q.length (Nat.le_refl _)
  refine ⟨h1.finish fun y hy => ?_, h2, fun z => ?_⟩
  · rcases hy with ⟨_, h3, h4⟩ | ⟨h3, _⟩
    · have hm : y ∈ srcQ won who Q Q.length := by
        unfold srcQ
        rw [List.take_length, List.mem_filter]
        exact ⟨(hQ y).2 h3, by simpa using h4⟩
      show (y == R || (srcQ won who Q Q.length).contains y) = true
      rw [Bool.or_eq_true]
      exact .inr (by simpa using hm)
    · exact absurd rfl h3
  · unfold srcL
    split
    · rename_i h; exact List.length_pos_of_mem h
    · exact Nat.zero_le _
end
theorem farW_yes {F : Nat → Bool} {L : Nat → Nat} {z : Nat} (h : F z = true) : farW F L z = (L z : Int) - 1 := by unfold farW; rw [if_pos h]
theorem farW_no {F : Nat → Bool} {L : Nat → Nat} {z : Nat} (h : F z = false) : farW F L z = -1 := by unfold farW; rw [if_neg (by simp [h])]
theorem farW_set {F : Nat → Bool} {L : Nat → Nat} {y v : Nat} (i : Nat) : (if i = y then (v : Int) else farW F L i) = farW (setB F y) (setN L y (v + 1)) i := by
  unfold farW setB setN
  by_cases e : i = y
  · simp [e]
  · simp [e]
end Go.Proofs.Ytknclgfjoajldab
