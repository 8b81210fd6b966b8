/- Several texts, one behind the other: M31 C5a C5b. -/
import Derived.Deep.QuietTactic
import Derived.BigQuiet
import Derived.Test.YtmiefdjbhcpnbaaZPCab
import Derived.Test.YtmiefdjbhcpnbaaZPCae

namespace Go.Proofs.Ytmiefdjbhcpnbaa

/-- Whether throws can bring both to the end, whoever moves. -/
def canP (s : Nat) : Nat → Nat → List Nat → Bool
  | x, y, [] => x == s && y == s
  | x, y, face :: l => if x + face ≤ s ∨ y + face ≤ s then (decide (x + face ≤ s) && canP s (x + face) y l) || (decide (y + face ≤ s) && canP s x (y + face) l) else canP s x y l
/-- Whether a throw can lead from both squares to others. -/
def leads (s x y face u v : Nat) : Bool :=
  if x + face ≤ s ∨ y + face ≤ s then (decide (x + face ≤ s) && (u == x + face && v == y)) || (decide (y + face ≤ s) && (u == x && v == y + face)) else u == x && v == y
theorem can_eq (s x y face : Nat) (l : List Nat) : canP s x y (face :: l) = if x + face ≤ s ∨ y + face ≤ s then (decide (x + face ≤ s) && canP s (x + face) y l) || (decide (y + face ≤ s) && canP s x (y + face) l) else canP s x y l := rfl
theorem can_cons (s x y face : Nat) (l : List Nat) : canP s x y (face :: l) = true ↔ ∃ u v, leads s x y face u v = true ∧ canP s u v l = true := by
  rw [can_eq]
  unfold leads
  constructor
  · intro h
    split at h
    next hc =>
      simp only [Bool.or_eq_true, Bool.and_eq_true, decide_eq_true_eq] at h
      rcases h with ⟨h1, h2⟩ | ⟨h1, h2⟩
      · exact ⟨x + face, y, by simp [h1], h2⟩
      · exact ⟨x, y + face, by simp [h1], h2⟩
    next hc => exact ⟨x, y, by simp [hc], h⟩
  · rintro ⟨u, v, h1, h2⟩
    split at h1
    next hc =>
      rw [if_pos hc]
      simp only [Bool.or_eq_true, Bool.and_eq_true, decide_eq_true_eq, beq_iff_eq] at h1 ⊢
      rcases h1 with ⟨h1, rfl, rfl⟩ | ⟨h1, rfl, rfl⟩
      · exact .inl ⟨h1, h2⟩
      · exact .inr ⟨h1, h2⟩
    next hc =>
      rw [if_neg hc]
      simp only [Bool.and_eq_true, beq_iff_eq] at h1
      obtain ⟨rfl, rfl⟩ := h1
      exact h2
theorem leads_in {s x y face u v : Nat} (h : leads s x y face u v = true) (hx : x ≤ s) (hy : y ≤ s) : u ≤ s ∧ v ≤ s := by
  unfold leads at h
  split at h
  · simp only [Bool.or_eq_true, Bool.and_eq_true, decide_eq_true_eq, beq_iff_eq] at h
    omega
  · simp only [Bool.and_eq_true, beq_iff_eq] at h
    omega

/-- A set of the squares of both: what lies beyond the end is in none. -/
def inPS (s : Nat) (S : Nat → Nat → Bool) : Prop := ∀ x y, S x y = true → x ≤ s ∧ y ≤ s
def stepS (s : Nat) (S : Nat → Nat → Bool) (face : Nat) : Nat → Nat → Bool :=
  fun u v => (List.range 7).any fun x => (List.range 7).any fun y => S x y && leads s x y face u v
def hitS (s : Nat) (S : Nat → Nat → Bool) (l : List Nat) : Bool := (List.range 7).any fun x => (List.range 7).any fun y => S x y && canP s x y l
theorem any7 (p : Nat → Nat → Bool) : ((List.range 7).any fun x => (List.range 7).any fun y => p x y) = true ↔ ∃ x y, x < 7 ∧ y < 7 ∧ p x y = true := by
  simp only [List.any_eq_true, List.mem_range]
  constructor
  · rintro ⟨x, hx, y, hy, h⟩
    exact ⟨x, y, hx, hy, h⟩
  · rintro ⟨x, y, hx, hy, h⟩
    exact ⟨x, hx, y, hy, h⟩
theorem stepS_iff {s : Nat} {S : Nat → Nat → Bool} {face u v : Nat} : stepS s S face u v = true ↔ ∃ x y, x < 7 ∧ y < 7 ∧ S x y = true ∧ leads s x y face u v = true := by
  unfold stepS
  rw [any7]
  simp only [Bool.and_eq_true]
theorem hitS_iff {s : Nat} {S : Nat → Nat → Bool} {l : List Nat} : hitS s S l = true ↔ ∃ x y, x < 7 ∧ y < 7 ∧ S x y = true ∧ canP s x y l = true := by
  unfold hitS
  rw [any7]
  simp only [Bool.and_eq_true]
theorem stepS_in {s : Nat} {S : Nat → Nat → Bool} (h : inPS s S) (face : Nat) : inPS s (stepS s S face) := by
  intro u v hu
  obtain ⟨x, y, _, _, h1, h2⟩ := stepS_iff.1 hu
  exact leads_in h2 (h _ _ h1).1 (h _ _ h1).2
theorem hit_step {s : Nat} {S : Nat → Nat → Bool} (hs : s ≤ 6) (h : inPS s S) (face : Nat) (l : List Nat) : hitS s (stepS s S face) l = hitS s S (face :: l) := by
  rw [Bool.eq_iff_iff, hitS_iff, hitS_iff]
  constructor
  · rintro ⟨u, v, _, _, h1, h2⟩
    obtain ⟨x, y, hx, hy, h3, h4⟩ := stepS_iff.1 h1
    exact ⟨x, y, hx, hy, h3, (can_cons _ _ _ _ _).2 ⟨u, v, h4, h2⟩⟩
  · rintro ⟨x, y, hx, hy, h1, h2⟩
    obtain ⟨u, v, h3, h4⟩ := (can_cons _ _ _ _ _).1 h2
    have := leads_in h3 (h _ _ h1).1 (h _ _ h1).2
    exact ⟨u, v, by omega, by omega, stepS_iff.2 ⟨x, y, hx, hy, h1, h3⟩, h4⟩
/-- The set of two squares alone. -/
def oneS (a b : Nat) : Nat → Nat → Bool := fun x y => x == a && y == b
theorem hit_one {s a b : Nat} (ha : a < 7) (hb : b < 7) (l : List Nat) : hitS s (oneS a b) l = canP s a b l := by
  rw [Bool.eq_iff_iff, hitS_iff]
  constructor
  · rintro ⟨x, y, _, _, h1, h2⟩
    simp only [oneS, Bool.and_eq_true, beq_iff_eq] at h1
    obtain ⟨rfl, rfl⟩ := h1
    exact h2
  · intro h
    exact ⟨a, b, ha, hb, by simp [oneS], h⟩
theorem oneS_in {s a b : Nat} (ha : a ≤ s) (hb : b ≤ s) : inPS s (oneS a b) := by
  intro x y h
  simp only [oneS, Bool.and_eq_true, beq_iff_eq] at h
  omega

/-- All lists of so many throws, in order. -/
def listsF (f : Nat) : Nat → List (List Nat)
  | 0 => [[]]
  | t + 1 => (List.range f).flatMap fun k => (listsF f t).map ((k + 1) :: ·)
/-- How many lists of so many throws a set can be done with. -/
def doneN (s f : Nat) : Nat → (Nat → Nat → Bool) → Nat
  | 0, S => if S s s then 1 else 0
  | t + 1, S => ((List.range f).map fun k => doneN s f t (stepS s S (k + 1))).sum
def goodF (f : Nat) (l : List Nat) : Prop := ∀ k ∈ l, 1 ≤ k ∧ k ≤ f
theorem mem_lists {f : Nat} : ∀ {t : Nat} {l : List Nat}, l ∈ listsF f t ↔ l.length = t ∧ goodF f l
  | 0, l => by
    simp only [listsF, List.mem_singleton]
    constructor
    · rintro rfl; exact ⟨rfl, fun k h => by simp at h⟩
    · rintro ⟨h, _⟩; exact List.length_eq_zero_iff.1 h
  | t + 1, l => by
    simp only [listsF, List.mem_flatMap, List.mem_range, List.mem_map]
    constructor
    · rintro ⟨k, hk, m, hm, rfl⟩
      obtain ⟨h1, h2⟩ := mem_lists.1 hm
      refine ⟨by simp [h1], fun j hj => ?_⟩
      rcases List.mem_cons.1 hj with rfl | hj
      · omega
      · exact h2 j hj
    · rintro ⟨h1, h2⟩
      match l, h1, h2 with
      | j :: m, h1, h2 =>
        have hj := h2 j (List.mem_cons_self)
        refine ⟨j - 1, by omega, m, mem_lists.2 ⟨by simpa using h1, fun k hk => h2 k (List.mem_cons_of_mem _ hk)⟩, ?_⟩
        rw [show j - 1 + 1 = j by omega]
theorem lists_len (f : Nat) : ∀ t, (listsF f t).length = f ^ t
  | 0 => rfl
  | t + 1 => by
    simp only [listsF, List.length_flatMap, List.length_map, lists_len f t]
    rw [Nat.pow_succ, Nat.mul_comm]
    generalize f ^ t = m
    induction f with
    | zero => simp
    | succ n ih => rw [List.range_succ, List.map_append, List.sum_append, ih]; simp [Nat.succ_mul]
theorem filter_lists (f t : Nat) (p : List Nat → Bool) : (listsF f (t + 1)).filter p = (List.range f).flatMap fun k => ((listsF f t).filter fun l => p ((k + 1) :: l)).map ((k + 1) :: ·) := by
  simp only [listsF, List.filter_flatMap, List.filter_map]
  rfl
theorem doneN_eq {s f : Nat} (hs : s ≤ 6) : ∀ (t : Nat) (S : Nat → Nat → Bool), inPS s S → doneN s f t S = ((listsF f t).filter (hitS s S)).length
  | 0, S, h => by
    have e : hitS s S [] = S s s := by
      rw [Bool.eq_iff_iff, hitS_iff]
      constructor
      · rintro ⟨x, y, _, _, h1, h2⟩
        simp only [canP, Bool.and_eq_true, beq_iff_eq] at h2
        obtain ⟨rfl, rfl⟩ := h2
        exact h1
      · intro h; exact ⟨s, s, by omega, by omega, h, by simp [canP]⟩
    simp only [doneN, listsF]
    cases hS : S s s <;> simp [List.filter, e, hS]
  | t + 1, S, h => by
    rw [filter_lists, List.length_flatMap]
    simp only [doneN, List.length_map]
    congr 1
    apply List.map_congr_left
    intro k _
    rw [doneN_eq hs t _ (stepS_in h (k + 1))]
    congr 2
    funext l
    exact hit_step hs h (k + 1) l
theorem doneN_le {s f : Nat} (hs : s ≤ 6) (t : Nat) (S : Nat → Nat → Bool) (h : inPS s S) : doneN s f t S ≤ f ^ t := by
  rw [doneN_eq hs t S h, ← lists_len f t]
  exact List.length_filter_le _ _

/-- The fewest throws for one token. -/
def fewP (s f x : Nat) : Nat := (s - x + f - 1) / f
theorem few_zero {s f x : Nat} (hf : 1 ≤ f) (h : s ≤ x) : fewP s f x = 0 := by
  unfold fewP
  exact Nat.div_eq_of_lt (by omega)
theorem few_pos {s f x : Nat} (hf : 1 ≤ f) (h : x < s) : 1 ≤ fewP s f x := by
  unfold fewP
  exact (Nat.le_div_iff_mul_le (by omega)).2 (by omega)
theorem few_step {s f x k : Nat} (hf : 1 ≤ f) (hk : k ≤ f) : fewP s f x ≤ fewP s f (x + k) + 1 := by
  unfold fewP
  rw [Nat.div_le_iff_le_mul_add_pred (by omega)]
  have h := Nat.div_add_mod (s - (x + k) + f - 1) f
  have h2 := Nat.mod_lt (s - (x + k) + f - 1) (show f > 0 by omega)
  rw [Nat.mul_add]
  omega
theorem few_go {s f x : Nat} (hf : 1 ≤ f) (h : x < s) : ∃ k, 1 ≤ k ∧ k ≤ f ∧ x + k ≤ s ∧ fewP s f (x + k) + 1 = fewP s f x := by
  by_cases h1 : x + f ≤ s
  · refine ⟨f, hf, Nat.le_refl _, h1, ?_⟩
    unfold fewP
    rw [show s - x + f - 1 = s - (x + f) + f - 1 + f by omega, Nat.add_div_right _ (by omega)]
  · refine ⟨s - x, by omega, by omega, by omega, ?_⟩
    rw [few_zero hf (by omega)]
    unfold fewP
    rw [show s - x + f - 1 = s - x - 1 + f by omega, Nat.add_div_right _ (by omega), Nat.div_eq_of_lt (by omega)]
theorem can_few {s f : Nat} (hf : 1 ≤ f) : ∀ (l : List Nat) (x y : Nat), goodF f l → canP s x y l = true → fewP s f x + fewP s f y ≤ l.length
  | [], x, y, _, h => by
    simp only [canP, Bool.and_eq_true, beq_iff_eq] at h
    rw [h.1, h.2, few_zero hf (Nat.le_refl _)]
    simp
  | k :: l, x, y, hg, h => by
    have hk := hg k List.mem_cons_self
    have hl : goodF f l := fun j hj => hg j (List.mem_cons_of_mem _ hj)
    rw [can_eq] at h
    split at h
    · simp only [Bool.or_eq_true, Bool.and_eq_true, decide_eq_true_eq] at h
      rcases h with ⟨_, h⟩ | ⟨_, h⟩
      · have h1 := can_few hf l _ _ hl h
        have h2 := few_step (s := s) (x := x) hf hk.2
        simp only [List.length_cons]; omega
      · have h1 := can_few hf l _ _ hl h
        have h2 := few_step (s := s) (x := y) hf hk.2
        simp only [List.length_cons]; omega
    · have h1 := can_few hf l _ _ hl h
      simp only [List.length_cons]; omega
theorem few_can {s f : Nat} (hf : 1 ≤ f) : ∀ (n x y : Nat), fewP s f x + fewP s f y = n → x ≤ s → y ≤ s → ∃ l, l.length = n ∧ goodF f l ∧ canP s x y l = true
  | 0, x, y, h, hx, hy => by
    have h1 : x = s := by
      rcases Nat.lt_or_ge x s with h1 | h1
      · have := few_pos hf h1; omega
      · omega
    have h2 : y = s := by
      rcases Nat.lt_or_ge y s with h1 | h1
      · have := few_pos hf h1; omega
      · omega
    exact ⟨[], rfl, fun k h => by simp at h, by simp [canP, h1, h2]⟩
  | n + 1, x, y, h, hx, hy => by
    by_cases h1 : x < s
    · obtain ⟨k, k1, k2, k3, k4⟩ := few_go hf h1
      obtain ⟨l, l1, l2, l3⟩ := few_can hf n (x + k) y (by omega) k3 hy
      refine ⟨k :: l, by simp [l1], fun j hj => ?_, ?_⟩
      · rcases List.mem_cons.1 hj with rfl | hj
        · omega
        · exact l2 j hj
      · exact (can_cons _ _ _ _ _).2 ⟨x + k, y, by simp [leads, k3], l3⟩
    · have h2 : y < s := by
        rcases Nat.lt_or_ge y s with h2 | h2
        · exact h2
        · rw [few_zero hf (by omega), few_zero hf h2] at h; omega
      obtain ⟨k, k1, k2, k3, k4⟩ := few_go hf h2
      obtain ⟨l, l1, l2, l3⟩ := few_can hf n x (y + k) (by omega) hx k3
      refine ⟨k :: l, by simp [l1], fun j hj => ?_, ?_⟩
      · rcases List.mem_cons.1 hj with rfl | hj
        · omega
        · exact l2 j hj
      · exact (can_cons _ _ _ _ _).2 ⟨x, y + k, by simp [leads, k3], l3⟩
/-- With the fewest throws it can be done, with fewer it can't. -/
theorem done_few {s f a b : Nat} (hs : s ≤ 6) (hf : 1 ≤ f) (ha : a ≤ s) (hb : b ≤ s) : 0 < doneN s f (fewP s f a + fewP s f b) (oneS a b) := by
  obtain ⟨l, h1, h2, h3⟩ := few_can hf _ a b rfl ha hb
  rw [doneN_eq hs _ _ (oneS_in ha hb)]
  exact List.length_pos_of_mem (List.mem_filter.2 ⟨mem_lists.2 ⟨h1, h2⟩, by rw [hit_one (by omega) (by omega)]; exact h3⟩)
theorem done_less {s f a b t : Nat} (hs : s ≤ 6) (hf : 1 ≤ f) (ha : a ≤ s) (hb : b ≤ s) (h : t < fewP s f a + fewP s f b) : doneN s f t (oneS a b) = 0 := by
  rw [doneN_eq hs _ _ (oneS_in ha hb), List.length_eq_zero_iff, List.filter_eq_nil_iff]
  intro l hl hc
  obtain ⟨h1, h2⟩ := mem_lists.1 hl
  rw [hit_one (by omega) (by omega)] at hc
  have := can_few hf l a b h2 hc
  omega
/-- The lists of the fewest throws, in order. -/
def allP (s f a b : Nat) : List (List Nat) := (listsF f (fewP s f a + fewP s f b)).filter (canP s a b)
theorem done_all {s f a b : Nat} (hs : s ≤ 6) (ha : a ≤ s) (hb : b ≤ s) : doneN s f (fewP s f a + fewP s f b) (oneS a b) = (allP s f a b).length := by
  rw [doneN_eq hs _ _ (oneS_in ha hb), allP]
  congr 2
  funext l
  exact hit_one (by omega) (by omega) l
/-- The first list by which a set is done: the least face that goes on, and so on. -/
def firstS (s f t : Nat) (S : Nat → Nat → Bool) : Option (List Nat) := ((listsF f t).filter (hitS s S)).head?
theorem firstS_zero {s f : Nat} {S : Nat → Nat → Bool} {l : List Nat} (h : firstS s f 0 S = some l) : l = [] := by
  have := List.mem_of_mem_head? (l := (listsF f 0).filter (hitS s S)) (by rw [firstS] at h; rw [h]; rfl)
  have := (List.mem_filter.1 this).1
  simpa [listsF] using this
theorem head_flat {α β : Type} (g : α → List β) : ∀ (l : List α) (z : β), (l.flatMap g).head? = some z → ∃ i, ∃ hi : i < l.length, (g l[i]).head? = some z ∧ ∀ j (hj : j < i), g (l[j]'(by omega)) = []
  | [], z, h => by simp at h
  | a :: l, z, h => by
    cases hg : g a with
    | nil =>
      rw [List.flatMap_cons, hg, List.nil_append] at h
      obtain ⟨i, hi, h1, h2⟩ := head_flat g l z h
      refine ⟨i + 1, by simpa using hi, by simpa using h1, fun j hj => ?_⟩
      cases j with
      | zero => exact hg
      | succ j => simpa using h2 j (by omega)
    | cons b m =>
      rw [List.flatMap_cons, hg] at h
      exact ⟨0, by simp, by rw [List.getElem_cons_zero, hg]; simpa using h, fun j hj => by omega⟩
theorem firstS_succ {s f t : Nat} {S : Nat → Nat → Bool} {l : List Nat} (hs : s ≤ 6) (hS : inPS s S) (h : firstS s f (t + 1) S = some l) :
    ∃ k m, k < f ∧ l = (k + 1) :: m ∧ firstS s f t (stepS s S (k + 1)) = some m ∧ 0 < doneN s f t (stepS s S (k + 1)) ∧ ∀ j < k, doneN s f t (stepS s S (j + 1)) = 0 := by
  unfold firstS at h
  rw [filter_lists] at h
  obtain ⟨k, hk, h1, h2⟩ := head_flat _ _ _ h
  simp only [List.length_range] at hk
  simp only [List.getElem_range] at h1 h2
  have e : ∀ k, ((listsF f t).filter fun l => hitS s S ((k + 1) :: l)) = (listsF f t).filter (hitS s (stepS s S (k + 1))) := fun k => by
    congr 1
    funext l
    exact (hit_step hs hS (k + 1) l).symm
  rw [e] at h1
  rw [List.head?_map] at h1
  cases hm : ((listsF f t).filter (hitS s (stepS s S (k + 1)))).head? with
  | none => rw [hm] at h1; cases h1
  | some m =>
    rw [hm] at h1
    simp only [Option.map_some, Option.some.injEq] at h1
    refine ⟨k, m, hk, h1.symm, hm, ?_, fun j hj => ?_⟩
    · rw [doneN_eq hs _ _ (stepS_in hS _)]
      exact List.length_pos_of_mem (List.mem_of_mem_head? (by rw [hm]; rfl))
    · have := h2 j hj
      rw [e, List.map_eq_nil_iff] at this
      rw [doneN_eq hs _ _ (stepS_in hS _), this]; rfl
theorem first_all {s f a b : Nat} (hs : s ≤ 6) (hf : 1 ≤ f) (ha : a ≤ s) (hb : b ≤ s) : ∃ l r, allP s f a b = l :: r ∧ firstS s f (fewP s f a + fewP s f b) (oneS a b) = some l ∧ l.length = fewP s f a + fewP s f b := by
  have h := done_few hs hf ha hb
  rw [done_all hs ha hb] at h
  cases hp : allP s f a b with
  | nil => rw [hp] at h; simp at h
  | cons l r =>
    refine ⟨l, r, rfl, ?_, ?_⟩
    · unfold firstS
      rw [show hitS s (oneS a b) = canP s a b from funext fun l => hit_one (by omega) (by omega) l, show List.filter (canP s a b) (listsF f (fewP s f a + fewP s f b)) = l :: r from hp]
      rfl
    · have : l ∈ allP s f a b := by rw [hp]; exact List.mem_cons_self
      exact (mem_lists.1 (List.mem_filter.1 this).1).1
end Go.Proofs.Ytmiefdjbhcpnbaa

namespace Go.Proofs.Ytmiefdjbhcpnbaa
open Go.RowKit

def pairOk (s f a b : Int) : Bool := inB s 1 6 && inB f 1 4 && inB a 0 s && inB b 0 s
theorem pairOk_iff {s f a b : Int} : pairOk s f a b = true ↔ (1 ≤ s ∧ s ≤ 6) ∧ (1 ≤ f ∧ f ≤ 4) ∧ (0 ≤ a ∧ a ≤ s) ∧ (0 ≤ b ∧ b ≤ s) := by
  simp only [pairOk, Bool.and_eq_true, inB_iff, and_assoc]
theorem pairOk_no {s f a b : Int} (h : ¬ ((1 ≤ s ∧ s ≤ 6) ∧ (1 ≤ f ∧ f ≤ 4) ∧ (0 ≤ a ∧ a ≤ s) ∧ (0 ≤ b ∧ b ≤ s))) : pairOk s f a b = false := by
  cases hp : pairOk s f a b
  · rfl
  · exact absurd (pairOk_iff.1 hp) h

theorem l1In_p (n lo hi : Int) (w : World) : Calls Try.prog 33 #[.int .i64 n, .int .i64 lo, .int .i64 hi] w fun e w' => e = .returned (.bool (inB n lo hi)) ∧ w = w' := by
  go_enter Try.func33, Try.ntmps33
  by_cases h : lo ≤ n
  · have h1 : decide (lo ≤ n) = true := by simpa using h
    go_wp2
    go_ret
    exact ⟨ret_bool (by simp [inB, h1]), rfl⟩
  · have h1 : decide (lo ≤ n) = false := by simpa using h
    go_wp2
    go_ret
    exact ⟨ret_bool (by simp [inB, h1]), rfl⟩

theorem oiGood_any (s f a b : Int) (w : World) : Calls Try.prog 22 #[.int .i64 s, .int .i64 f, .int .i64 a, .int .i64 b] w fun e w' => e = .returned (.bool (pairOk s f a b)) ∧ w = w' := by
  cases h1 : inB s 1 6 <;> cases h2 : inB f 1 4 <;> cases h3 : inB a 0 s <;> cases h4 : inB b 0 s
  all_goals
    have hp : pairOk s f a b = pairOk s f a b := rfl
    conv at hp => rhs; rw [pairOk, h1, h2, h3, h4]
    simp only [Bool.and_true, Bool.and_false] at hp
    have HP := Lib.hid hp; clear hp
    go_enter Try.func22, Try.ntmps22
    go_wp2_with (go_at_call 33; refine (l1In_p _ _ _ _).mono ?_; rintro e w' ⟨rfl, rfl⟩)
    go_ret
    exact ⟨ret_bool HP.out.symm, rfl⟩


theorem implIsPair_any (s f a b : Int) (w : World) : Calls Try.prog 36 #[.int .i64 s, .int .i64 f, .int .i64 a, .int .i64 b] w fun e w' => e = .returned (.bool (pairOk s f a b)) ∧ w = w' := by
  obtain ⟨r, hr⟩ : ∃ r, pairOk s f a b = r := ⟨_, rfl⟩
  rw [hr]
  have HR := Lib.hid hr; clear hr
  go_enter Try.func36, Try.ntmps36
  go_wp2_with fail
  all_goals
    go_ret
    refine ⟨ret_bool ?_, rfl⟩
    rw [← HR.out]
    first | exact (pairOk_no (by omega)).symm | (rw [Bool.eq_iff_iff, pairOk_iff]; simp; omega)

end Go.Proofs.Ytmiefdjbhcpnbaa

namespace Go.Proofs.Ytmiefdjbhcpnbaa
open Go.RowKit

theorem run_buildPB (w : World) (s f : Int) : (Instr.build 67 #[(0, .int .i64 s), (1, .int .i64 f)]).run Try.prog w = .ok (.agg #[.int .i64 s, .int .i64 f, .int .i64 0, .slice none 0 0]) w := by kernel_rfl
theorem pair_good {s f a b : Int} (h : pairOk s f a b = true) : good ⟨s, f, 0, []⟩ = true := by
  have := pairOk_iff.1 h
  simp [good, sizes, jumpsOk, inB]
  omega

set_option maxRecDepth 100000 in
theorem courseOfPair_yes (s f a b : Int) (w : World) (hp : pairOk s f a b = true) :
    Calls Try.prog 24 #[.int .i64 s, .int .i64 f, .int .i64 a, .int .i64 b] w fun e w' =>
      e = .returned (.tuple #[.agg (crsCells s f 0 (fun i => jumpOf [] i)), .bool true]) ∧ Below w.heap.size w w' := by
  have hg := pair_good hp
  have hbd := run_buildPB
  have hn : ∀ W : World, RJ W W.heap.size none [] := fun W => ⟨by simp, fun j hj => by simp at hj, .inl rfl⟩
  have HP := Lib.hid hp; have HG := Lib.hid hg; clear hp hg
  go_enter Try.func24, Try.ntmps24
  go_wp2_with fail
  refine (implIsPair_any s f a b _).mono ?_
  rintro e w0 ⟨rfl, rfl⟩
  rw [HP.out]
  go_wp2_with fail
  refine (courseOf_yes s f 0 none 0 [] _ (hn _) HG.out).mono ?_
  rintro e w1 ⟨rfl, hx⟩
  rw [courseZero] at hx
  have hC : CA w1 w.heap.size 0 0 0 (fun _ => 0) := (hx.block _ (by simp)).trans (heap_alloc_at _ _ _ (by simp))
  have hb : Below w.heap.size w w1 := (below1 _ _).trans (hx.mono (by simp))
  go_wp2_with (refine wpList_store_row rfl 42 (.tmp 8) (.tmp 21) rfl w.heap.size rfl _ _ _ rfl hC ?_ ?_ (crs_one _ _ _ _) ?_; (rw [crs_size, crs_size]); (rw [crs_size]; exact sizeCourse); intro w4 hC4 hg4 hs4)
  exact bodyPost_ret (v := .tuple #[.agg (crsCells s f 0 (fun i => jumpOf [] i)), .bool true]) (results_cell_slot Try.results24 _ _ _ _ _ _ _ _ rfl rfl hC4 Try.underlying42 rfl (by rw [crs_size]; exact sizeCourse)) rfl
    ⟨rfl, hb.grown hg4 (by have := hx.size; simp at this; omega) (fun k h => by cases h; omega)⟩

set_option maxRecDepth 100000 in
theorem courseOfPair_no (s f a b : Int) (w : World) (hp : pairOk s f a b = false) :
    Calls Try.prog 24 #[.int .i64 s, .int .i64 f, .int .i64 a, .int .i64 b] w fun e w' =>
      e = .returned (.tuple #[.agg (crsCells 0 0 0 (fun _ => 0)), .bool false]) ∧ Below w.heap.size w w' := by
  have hbd := run_buildCourse0
  have HP := Lib.hid hp; clear hp
  go_enter Try.func24, Try.ntmps24
  go_wp2_with fail
  refine (implIsPair_any s f a b _).mono ?_
  rintro e w0 ⟨rfl, rfl⟩
  rw [HP.out]
  have hC : CA (w.alloc (.cells Try.zeroCells42 42)) w.heap.size 0 0 0 (fun _ => 0) := by rw [courseZero]; exact heap_alloc_at _ _ _ rfl
  have zs : Try.zeroCells42.size = 104 := by rw [courseZero, crs_size]
  have z1 : ∀ u ∈ Try.zeroCells42.toList, u.oneCell' = true := by rw [courseZero]; exact crs_one _ _ _ _
  go_wp2_with (refine wpList_store_row rfl 42 (.tmp 8) _ rfl w.heap.size rfl _ _ Try.zeroCells42 rfl hC ?_ ?_ z1 ?_; (rw [zs, crs_size]); (rw [zs, sizeCourse]); intro w4 hC4 hg4 hs4)
  rw [courseZero] at hC4
  exact bodyPost_ret (v := .tuple #[.agg (crsCells 0 0 0 (fun _ => 0)), .bool false]) (results_cell_slot Try.results24 _ _ _ _ _ _ _ _ rfl rfl hC4 Try.underlying42 rfl (by rw [crs_size]; exact sizeCourse)) rfl
    ⟨rfl, (below1 _ _).grown hg4 (by simp) (fun k h => by cases h; omega)⟩
end Go.Proofs.Ytmiefdjbhcpnbaa
