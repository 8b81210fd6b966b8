/-
  The most dice with one face, and faces one behind the other. Plain mathematics.
-/
import Derived.Test.YtblpfjjnlfjloacM42
namespace Go.Proofs.Ytblpfjjnlfjloac

theorem count_peel (k a x : Nat) (t : List Nat) (h : x ≠ a) : (List.replicate k a ++ t).count x = t.count x := by
  rw [List.count_append, List.count_replicate, if_neg (by simpa using fun e : a = x => h e.symm)]; omega
theorem count_peel_self {d f : Nat} {t : List Nat} (k : Nat) (h : t ∈ ups d f) : (List.replicate k (f + 1) ++ t).count (f + 1) = k := by
  rw [List.count_append, List.count_replicate_self, List.count_eq_zero_of_not_mem (fun hx => by have := (ups_in _ _ _ h _ hx).2; omega)]; omega

def mostN (t : List Nat) : Nat → Nat
  | 0 => 0
  | n + 1 => max (mostN t n) (t.count (n + 1))
theorem mostN_le (t : List Nat) : ∀ n, mostN t n ≤ t.length
  | 0 => Nat.zero_le _
  | n + 1 => Nat.max_le.2 ⟨mostN_le t n, List.count_le_length⟩
theorem mostN_peel (k a : Nat) (t : List Nat) : ∀ n, n < a → mostN (List.replicate k a ++ t) n = mostN t n
  | 0, _ => rfl
  | n + 1, h => by show max _ _ = max _ _; rw [mostN_peel k a t n (by omega), count_peel k a (n + 1) t (by omega)]
/-- all throws with no face more often than that -/
def mq (d f m : Nat) : Nat := W d f (fun t => is (decide (mostN t f ≤ m)))
theorem mq_le (d f m : Nat) : mq d f m ≤ f ^ d := W_is_le d f _
theorem mq_zero (d m : Nat) : mq d 0 m = if d = 0 then 1 else 0 := by
  unfold mq
  cases d with
  | zero => rw [W_zero]; simp [mostN, is]
  | succ d => rw [W_none]; simp
theorem mq_peel (d f m : Nat) : mq d (f + 1) m = sumD (fun k => if k ≤ m then bin d k * mq (d - k) f m else 0) (d + 1) := by
  unfold mq
  rw [W_peel]
  refine sumD_same _ _ _ fun k _ => ?_
  by_cases h : k ≤ m
  · rw [if_pos h]
    congr 1
    refine W_same _ _ _ _ fun t ht => ?_
    congr 1
    show decide (max (mostN (List.replicate k (f + 1) ++ t) f) ((List.replicate k (f + 1) ++ t).count (f + 1)) ≤ m) = _
    rw [mostN_peel k (f + 1) t f (by omega), count_peel_self k ht, Bool.eq_iff_iff]
    simp only [decide_eq_true_eq]
    omega
  · rw [if_neg h]
    have : W (d - k) f (fun t => is (decide (mostN (List.replicate k (f + 1) ++ t) (f + 1) ≤ m))) = 0 := by
      rw [← W_null (d - k) f]
      refine W_same _ _ _ _ fun t ht => ?_
      have : decide (mostN (List.replicate k (f + 1) ++ t) (f + 1) ≤ m) = false := by
        show decide (max (mostN (List.replicate k (f + 1) ++ t) f) ((List.replicate k (f + 1) ++ t).count (f + 1)) ≤ m) = _
        rw [count_peel_self k ht, decide_eq_false_iff_not]
        omega
      rw [this]; rfl
    rw [this]; rfl
theorem mq_same (d f s : Nat) : W d f (fun t => is (mostN t f == s + 1)) + mq d f s = mq d f (s + 1) := by
  unfold mq
  rw [← W_add]
  refine W_same _ _ _ _ fun t _ => ?_
  by_cases h : mostN t f = s + 1
  · have h1 : (mostN t f == s + 1) = true := by simpa using h
    have h2 : decide (mostN t f ≤ s) = false := decide_eq_false (by omega)
    have h3 : decide (mostN t f ≤ s + 1) = true := decide_eq_true (by omega)
    rw [h1, h2, h3]; rfl
  · have h1 : (mostN t f == s + 1) = false := beq_eq_false_iff_ne.2 h
    have h3 : decide (mostN t f ≤ s + 1) = decide (mostN t f ≤ s) := by rw [Bool.eq_iff_iff]; simp only [decide_eq_true_eq]; omega
    rw [h1, h3]; simp [is]

/-! faces one behind the other -/
/-- the run that ends at a face, and the longest one -/
def runN (t : List Nat) : Nat → Nat
  | 0 => 0
  | n + 1 => if t.count (n + 1) = 0 then 0 else runN t n + 1
def lonN (t : List Nat) : Nat → Nat
  | 0 => 0
  | n + 1 => max (lonN t n) (runN t (n + 1))
theorem runN_le (t : List Nat) : ∀ n, runN t n ≤ n
  | 0 => Nat.le_refl _
  | n + 1 => by
    have h := runN_le t n
    unfold runN
    by_cases e : t.count (n + 1) = 0
    · rw [if_pos e]; omega
    · rw [if_neg e]; omega
theorem lonN_le (t : List Nat) : ∀ n, lonN t n ≤ n
  | 0 => Nat.le_refl _
  | n + 1 => Nat.max_le.2 ⟨Nat.le_succ_of_le (lonN_le t n), runN_le t (n + 1)⟩
/-- so many faces end at one -/
def topR (t : List Nat) (r n : Nat) : Prop := r ≤ n ∧ ∀ i, i < r → 0 < t.count (n - i)
theorem topR_succ (t : List Nat) (r n : Nat) : topR t (r + 1) (n + 1) ↔ 0 < t.count (n + 1) ∧ topR t r n := by
  constructor
  · intro ⟨h1, h2⟩
    refine ⟨h2 0 (by omega), by omega, fun i hi => ?_⟩
    have := h2 (i + 1) (by omega)
    rwa [show n + 1 - (i + 1) = n - i by omega] at this
  · intro ⟨h0, h1, h2⟩
    refine ⟨by omega, fun i hi => ?_⟩
    cases i with
    | zero => exact h0
    | succ i => rw [show n + 1 - (i + 1) = n - i by omega]; exact h2 i (by omega)
theorem runN_top (t : List Nat) : ∀ n r, r ≤ runN t n ↔ topR t r n
  | 0, r => by
    constructor
    · intro h; have h : r ≤ 0 := h; exact ⟨by omega, fun i hi => by omega⟩
    · intro h; exact h.1
  | n + 1, 0 => ⟨fun _ => ⟨Nat.zero_le _, fun i hi => by omega⟩, fun _ => Nat.zero_le _⟩
  | n + 1, r + 1 => by
    rw [topR_succ, ← runN_top t n r]
    show r + 1 ≤ (if t.count (n + 1) = 0 then 0 else runN t n + 1) ↔ _
    by_cases h : t.count (n + 1) = 0
    · rw [if_pos h]; omega
    · rw [if_neg h]; omega
def winR (t : List Nat) (r n : Nat) : Prop := ∃ m, m ≤ n ∧ topR t r m
theorem winR_succ (t : List Nat) (r n : Nat) : winR t r (n + 1) ↔ winR t r n ∨ topR t r (n + 1) := by
  constructor
  · intro ⟨m, hm, h⟩
    by_cases e : m = n + 1
    · subst e; exact .inr h
    · exact .inl ⟨m, by omega, h⟩
  · rintro (⟨m, hm, h⟩ | h)
    · exact ⟨m, by omega, h⟩
    · exact ⟨n + 1, Nat.le_refl _, h⟩
theorem lonN_win (t : List Nat) (r : Nat) (hr : 1 ≤ r) : ∀ n, r ≤ lonN t n ↔ winR t r n
  | 0 => by
    constructor
    · intro h; have h : r ≤ 0 := h; omega
    · intro ⟨m, hm, h⟩; have := h.1; omega
  | n + 1 => by
    rw [winR_succ, ← lonN_win t r hr n, ← runN_top t (n + 1) r]
    show r ≤ max _ _ ↔ _
    omega

/-- from the greatest face down, so many of those just before being there -/
def rnB (t : List Nat) (run : Nat) : Nat → Nat → Bool
  | 0, b => b == run
  | f + 1, b => if b = run then true else if 0 < t.count (f + 1) then rnB t run f (b + 1) else rnB t run f 0
theorem rnB_yes (t : List Nat) (run : Nat) : ∀ f, rnB t run f run = true
  | 0 => by simp [rnB]
  | f + 1 => by simp [rnB]
theorem rnB_iff (t : List Nat) (run : Nat) (hr : 1 ≤ run) : ∀ f b, b < run → (rnB t run f b = true ↔ topR t (run - b) f ∨ winR t run f)
  | 0, b, hb => by
    constructor
    · intro h; have h : b = run := by simpa [rnB] using h
      omega
    · rintro (h | ⟨m, hm, h⟩)
      · have := h.1; omega
      · have := h.1; omega
  | f + 1, b, hb => by
    unfold rnB
    rw [if_neg (by omega)]
    obtain ⟨j, hj⟩ : ∃ j, run - b = j + 1 := ⟨run - b - 1, by omega⟩
    rw [hj, topR_succ, winR_succ]
    by_cases hc : 0 < t.count (f + 1)
    · rw [if_pos hc]
      by_cases hb2 : b + 1 = run
      · rw [hb2, rnB_yes]
        have : j = 0 := by omega
        subst this
        exact ⟨fun _ => .inl ⟨hc, Nat.zero_le _, fun i hi => by omega⟩, fun _ => rfl⟩
      · rw [rnB_iff t run hr f (b + 1) (by omega), show run - (b + 1) = j by omega]
        constructor
        · rintro (h | h)
          · exact .inl ⟨hc, h⟩
          · exact .inr (.inl h)
        · rintro (⟨_, h⟩ | h | h)
          · exact .inl h
          · exact .inr h
          · left
            have h1 := h.1
            refine ⟨by omega, fun i hi => ?_⟩
            have := h.2 (i + 1) (by omega)
            rwa [show f + 1 - (i + 1) = f - i by omega] at this
    · rw [if_neg hc, rnB_iff t run hr f 0 (by omega), Nat.sub_zero]
      constructor
      · rintro (h | h)
        · exact .inr (.inl ⟨f, Nat.le_refl _, h⟩)
        · exact .inr (.inl h)
      · rintro (⟨h, _⟩ | h | h)
        · exact absurd h hc
        · exact .inr h
        · exact absurd (h.2 0 (by omega)) (by simpa using hc)
theorem rnB_lon (t : List Nat) (run f : Nat) (hr : 1 ≤ run) : rnB t run f 0 = decide (run ≤ lonN t f) := by
  rw [Bool.eq_iff_iff, rnB_iff t run hr f 0 (by omega), decide_eq_true_eq, lonN_win t run hr f, Nat.sub_zero]
  constructor
  · rintro (h | h)
    · exact ⟨f, Nat.le_refl _, h⟩
    · exact h
  · exact .inr
theorem rnB_peel (k a : Nat) (t : List Nat) (run : Nat) : ∀ f b, f < a → rnB (List.replicate k a ++ t) run f b = rnB t run f b
  | 0, _, _ => rfl
  | f + 1, b, h => by
    unfold rnB
    rw [count_peel k a (f + 1) t (by omega), rnB_peel k a t run f (b + 1) (by omega), rnB_peel k a t run f 0 (by omega)]
def rq (d f b run : Nat) : Nat := W d f (fun t => is (rnB t run f b))
theorem rq_le (d f b run : Nat) : rq d f b run ≤ f ^ d := W_is_le d f _
theorem rq_done (d f run : Nat) : rq d f run run = f ^ d := by
  unfold rq
  rw [← W_all]
  exact W_same _ _ _ _ fun t _ => by rw [rnB_yes]; rfl
theorem rq_zero (d b run : Nat) (h : b ≠ run) : rq d 0 b run = 0 := by
  unfold rq
  cases d with
  | zero => rw [W_zero]; simp [rnB, is, h]
  | succ d => rfl
theorem rq_peel (d f b run : Nat) (h : b ≠ run) : rq d (f + 1) b run = rq d f 0 run + sumD (fun k => bin d (k + 1) * rq (d - (k + 1)) f (b + 1) run) d := by
  unfold rq
  rw [W_peel, sumD_head]
  congr 1
  · rw [bin_zero, Nat.one_mul]
    refine W_same _ _ _ _ fun t ht => ?_
    have h0 := count_peel_self 0 ht
    show is (rnB (List.replicate 0 (f + 1) ++ t) run (f + 1) b) = _
    rw [show rnB (List.replicate 0 (f + 1) ++ t) run (f + 1) b = rnB t run f 0 by
      conv => lhs; unfold rnB
      rw [if_neg h, h0, if_neg (by omega)]; rfl]
  · refine sumD_same _ _ _ fun k _ => ?_
    congr 1
    refine W_same _ _ _ _ fun t ht => ?_
    have h0 := count_peel_self (k + 1) ht
    rw [show rnB (List.replicate (k + 1) (f + 1) ++ t) run (f + 1) b = rnB t run f (b + 1) by
      conv => lhs; unfold rnB
      rw [if_neg h, h0, if_pos (by omega), rnB_peel (k + 1) (f + 1) t run f (b + 1) (by omega)]]

/-! each face -/
/-- all throws with each face -/
def sj : Nat → Nat → Nat
  | 0, d => if d = 0 then 1 else 0
  | f + 1, d => sumD (fun k => bin d (k + 1) * sj f (d - (k + 1))) d
/-- the same by numbers of throws without some faces -/
def ieT (d f k : Nat) : Int := (bin f k * (f - k) ^ d : Nat)
def ieS (d f : Nat) : Nat → Int
  | 0 => 0
  | k + 1 => if k % 2 = 0 then ieS d f k + ieT d f k else ieS d f k - ieT d f k
theorem sj_ie : ∀ d, d ≤ 8 → ∀ f, f ≤ 12 → ieS d f (f + 1) = (sj f d : Int) := by decide +kernel
theorem topR_all (t : List Nat) (n : Nat) : topR t n n ↔ ∀ a, 1 ≤ a → a ≤ n → 0 < t.count a := by
  constructor
  · intro h a h1 h2
    have := h.2 (n - a) (by omega)
    rwa [show n - (n - a) = a by omega] at this
  · intro h
    exact ⟨Nat.le_refl _, fun i hi => h (n - i) (by omega) (by omega)⟩
def eachB (t : List Nat) : Nat → Bool
  | 0 => true
  | n + 1 => decide (0 < t.count (n + 1)) && eachB t n
theorem eachB_iff (t : List Nat) : ∀ n, eachB t n = true ↔ ∀ a, 1 ≤ a → a ≤ n → 0 < t.count a
  | 0 => ⟨fun _ a h1 h2 => by omega, fun _ => rfl⟩
  | n + 1 => by
    unfold eachB
    rw [Bool.and_eq_true, decide_eq_true_eq, eachB_iff t n]
    constructor
    · intro ⟨h1, h2⟩ a ha hb
      by_cases e : a = n + 1
      · subst e; exact h1
      · exact h2 a ha (by omega)
    · intro h
      exact ⟨h (n + 1) (by omega) (Nat.le_refl _), fun a ha hb => h a ha (by omega)⟩
theorem eachB_peel (k a : Nat) (t : List Nat) : ∀ n, n < a → eachB (List.replicate k a ++ t) n = eachB t n
  | 0, _ => rfl
  | n + 1, h => by unfold eachB; rw [count_peel k a (n + 1) t (by omega), eachB_peel k a t n (by omega)]
theorem sj_W : ∀ f d, W d f (fun t => is (eachB t f)) = sj f d
  | 0, 0 => by rw [W_zero]; rfl
  | 0, d + 1 => rfl
  | f + 1, d => by
    rw [W_peel, sumD_head]
    have h0 : W (d - 0) f (fun t => is (eachB (List.replicate 0 (f + 1) ++ t) (f + 1))) = 0 := by
      refine Eq.trans (W_same _ _ _ _ fun t ht => ?_) (W_null (d - 0) f)
      have := count_peel_self 0 ht
      have e : eachB (List.replicate 0 (f + 1) ++ t) (f + 1) = false := by
        unfold eachB
        rw [this]; simp
      rw [e]; rfl
    rw [h0, Nat.mul_zero, Nat.zero_add]
    show _ = sumD (fun k => bin d (k + 1) * sj f (d - (k + 1))) d
    refine sumD_same _ _ _ fun k _ => ?_
    rw [← sj_W f (d - (k + 1))]
    congr 1
    refine W_same _ _ _ _ fun t ht => ?_
    have := count_peel_self (k + 1) ht
    have e : eachB (List.replicate (k + 1) (f + 1) ++ t) (f + 1) = eachB t f := by
      conv => lhs; unfold eachB
      rw [this, eachB_peel (k + 1) (f + 1) t f (by omega)]; simp
    rw [e]
/-- CountEachFace -/
theorem each_lon (t : List Nat) (f : Nat) (hf : 1 ≤ f) : decide (f ≤ lonN t f) = eachB t f := by
  rw [Bool.eq_iff_iff, decide_eq_true_eq, lonN_win t f hf f, eachB_iff, ← topR_all]
  constructor
  · intro ⟨m, hm, h⟩
    have := h.1
    obtain rfl : m = f := by omega
    exact h
  · intro h; exact ⟨f, Nat.le_refl _, h⟩
end Go.Proofs.Ytblpfjjnlfjloac
