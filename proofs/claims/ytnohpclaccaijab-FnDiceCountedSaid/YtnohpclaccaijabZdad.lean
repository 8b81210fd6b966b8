/- Several texts, one behind the other: M41 M42. -/
import Derived.Test.YtnohpclaccaijabZdac

namespace Go.Proofs.Ytnohpclaccaijab

theorem sumD_add (g h : Nat → Nat) : ∀ n, sumD (fun i => g i + h i) n = sumD g n + sumD h n
  | 0 => rfl
  | n + 1 => by show sumD _ n + (g n + h n) = sumD g n + g n + (sumD h n + h n); rw [sumD_add g h n]; omega
theorem sumD_mul (c : Nat) (h : Nat → Nat) : ∀ n, sumD (fun i => c * h i) n = c * sumD h n
  | 0 => rfl
  | n + 1 => by show sumD _ n + c * h n = c * (sumD h n + h n); rw [sumD_mul c h n, Nat.mul_add]
theorem sumD_none (h : Nat → Nat) : ∀ n, (∀ i, i < n → h i = 0) → sumD h n = 0
  | 0, _ => rfl
  | n + 1, hs => by show sumD h n + h n = 0; rw [sumD_none h n (fun i hi => hs i (by omega)), hs n (by omega)]
theorem sumD_one (h : Nat → Nat) (m : Nat) : ∀ n, m < n → (∀ i, i < n → i ≠ m → h i = 0) → sumD h n = h m
  | 0, hm, _ => by omega
  | n + 1, hm, hs => by
    show sumD h n + h n = h m
    by_cases e : m = n
    · subst e; rw [sumD_none h m (fun i hi => hs i (by omega) (by omega))]; omega
    · rw [sumD_one h m n (by omega) (fun i hi => hs i (by omega)), hs n (by omega) (by omega)]; omega
theorem sumD_le (g h : Nat → Nat) : ∀ n, (∀ i, i < n → g i ≤ h i) → sumD g n ≤ sumD h n
  | 0, _ => Nat.le_refl _
  | n + 1, hs => Nat.add_le_add (sumD_le g h n (fun i hi => hs i (by omega))) (hs n (by omega))
theorem sumD_far (h : Nat → Nat) (n : Nat) (hz : ∀ i, n ≤ i → h i = 0) : ∀ m, sumD h (n + m) = sumD h n
  | 0 => rfl
  | m + 1 => by show sumD h (n + m) + h (n + m) = _; rw [sumD_far h n hz m, hz (n + m) (by omega)]; rfl
theorem sumD_app (h : Nat → Nat) (n : Nat) : ∀ m, sumD h (n + m) = sumD h n + sumD (fun i => h (n + i)) m
  | 0 => rfl
  | m + 1 => by show sumD h (n + m) + h (n + m) = sumD h n + (sumD (fun i => h (n + i)) m + h (n + m)); rw [sumD_app h n m]; omega
theorem sumD_swap (h : Nat → Nat → Nat) (n : Nat) : ∀ m, sumD (fun i => sumD (fun j => h i j) m) n = sumD (fun j => sumD (fun i => h i j) n) m
  | 0 => sumD_none _ _ fun _ _ => rfl
  | m + 1 => by
    show sumD (fun i => sumD (fun j => h i j) m + h i m) n = _ + sumD (fun i => h i m) n
    rw [sumD_add, sumD_swap h n m]

theorem bino (y x : Nat) : ∀ d, sumD (fun k => bin d k * (y ^ k * x ^ (d - k))) (d + 1) = (y + x) ^ d
  | 0 => by simp [sumD, bin]
  | d + 1 => by
    have ih := bino y x d
    rw [sumD_head]
    have e : ∀ k, bin (d + 1) (k + 1) * (y ^ (k + 1) * x ^ (d + 1 - (k + 1))) = y * (bin d k * (y ^ k * x ^ (d - k))) + bin d (k + 1) * (y ^ (k + 1) * x ^ (d - k)) := by
      intro k
      show (bin d k + bin d (k + 1)) * _ = _
      rw [Nat.add_mul, show d + 1 - (k + 1) = d - k by omega]
      congr 1
      rw [Nat.pow_succ, Nat.mul_comm (y ^ k) y, Nat.mul_assoc y, Nat.mul_left_comm]
    rw [sumD_same _ _ _ (fun k _ => e k), sumD_add, sumD_mul, ih]
    have e2 : bin (d + 1) 0 * (y ^ 0 * x ^ (d + 1 - 0)) + sumD (fun k => bin d (k + 1) * (y ^ (k + 1) * x ^ (d - k))) (d + 1) = x * (y + x) ^ d := by
      rw [← ih, ← sumD_mul, sumD_head (fun i => x * (bin d i * (y ^ i * x ^ (d - i))))]
      show _ + (sumD (fun k => bin d (k + 1) * (y ^ (k + 1) * x ^ (d - k))) d + bin d (d + 1) * _) = _
      rw [bin_over d (d + 1) (by omega), Nat.zero_mul, Nat.add_zero]
      congr 1
      · simp [bin_zero, Nat.pow_succ, Nat.mul_comm]
      · refine sumD_same _ _ _ fun k hk => ?_
        rw [show d - k = (d - (k + 1)) + 1 by omega, Nat.pow_succ x, ← Nat.mul_assoc (y ^ (k + 1)), ← Nat.mul_assoc (bin d (k + 1)), Nat.mul_comm x]
    rw [Nat.add_left_comm, e2, Nat.pow_succ, Nat.mul_comm _ (y + x), Nat.add_mul]

theorem W_mul (c d f : Nat) (g : List Nat → Nat) : W d f (fun t => c * g t) = c * W d f g := by
  unfold W; rw [← tot_mul]; exact tot_same _ _ _ fun t _ => by rw [Nat.mul_left_comm]
theorem W_null (d f : Nat) : W d f (fun _ => 0) = 0 := by
  have := W_mul 0 d f (fun _ => 0); simpa using this
theorem W_sumTo (d f : Nat) (g : Nat → List Nat → Nat) : ∀ n, sumD (fun s => W d f (g s)) n = W d f (fun t => sumD (fun s => g s t) n)
  | 0 => (W_null d f).symm
  | n + 1 => by
    show sumD _ n + W d f (g n) = W d f (fun t => sumD (fun s => g s t) n + g n t)
    rw [W_sumTo d f g n, W_add]

/-- X and its powers up to f -/
def pw (X f : Nat) : Nat := sumD (fun a => X ^ (a + 1)) f
theorem pw_one (f : Nat) : pw 1 f = f := by
  unfold pw
  induction f with
  | zero => rfl
  | succ f ih => show sumD _ f + 1 ^ (f + 1) = _; rw [ih, Nat.one_pow]
theorem sum_peel (k a : Nat) (t : List Nat) : (List.replicate k a ++ t).sum = k * a + t.sum := by
  induction k with
  | zero => simp
  | succ k ih => rw [List.replicate_succ, List.cons_append, List.sum_cons, ih, Nat.add_mul]; omega
theorem W_pow (X : Nat) : ∀ f d, W d f (fun t => X ^ t.sum) = pw X f ^ d
  | 0, 0 => by rw [W_zero]; rfl
  | 0, d + 1 => by rw [W_none]; simp [pw, sumD]
  | f + 1, d => by
    rw [W_peel]
    have : ∀ k, W (d - k) f (fun t => X ^ (List.replicate k (f + 1) ++ t).sum) = (X ^ (f + 1)) ^ k * pw X f ^ (d - k) := by
      intro k
      rw [← W_pow X f (d - k), ← W_mul]
      refine W_same _ _ _ _ fun t _ => ?_
      rw [sum_peel, Nat.pow_add, Nat.mul_comm k, Nat.pow_mul]
    rw [sumD_same _ _ _ (fun k _ => by rw [this k]), bino]
    show _ = (sumD _ f + X ^ (f + 1)) ^ d
    rw [Nat.add_comm]; rfl
theorem W_all (d f : Nat) : W d f (fun _ => 1) = f ^ d := by
  have := W_pow 1 f d
  rw [pw_one] at this
  simpa using this
theorem W_le_all (d f c : Nat) (g : List Nat → Nat) (h : ∀ t ∈ ups d f, g t ≤ c) : W d f g ≤ c * f ^ d := by
  rw [← W_all, ← W_mul]
  exact W_le d f _ _ fun t ht => by simpa using h t ht

def is (b : Bool) : Nat := if b then 1 else 0
theorem is_le (b : Bool) : is b ≤ 1 := by cases b <;> decide
theorem W_is_le (d f : Nat) (p : List Nat → Bool) : W d f (fun t => is (p t)) ≤ f ^ d := by
  have := W_le_all d f 1 (fun t => is (p t)) (fun t _ => is_le _)
  simpa using this
theorem W_not (d f : Nat) (p : List Nat → Bool) : W d f (fun t => is (p t)) + W d f (fun t => is (!p t)) = f ^ d := by
  rw [← W_add, ← W_all]
  exact W_same _ _ _ _ fun t _ => by cases p t <;> rfl

/-! sums of the greatest dice -/
def kq (d f kept s : Nat) : Nat := W d f (fun t => is ((t.take kept).sum == s))
theorem kq_le (d f kept s : Nat) : kq d f kept s ≤ f ^ d := W_is_le d f _
theorem take_peel (k a kept : Nat) (t : List Nat) : (List.replicate k a ++ t).take kept = List.replicate (min k kept) a ++ t.take (kept - min k kept) := by
  rw [List.take_append, List.take_replicate, List.length_replicate]
  congr 2
  · exact Nat.min_comm _ _
  · omega
theorem kq_peel (d f kept s : Nat) : kq d (f + 1) kept s = sumD (fun k => bin d k * (if min k kept * (f + 1) ≤ s then kq (d - k) f (kept - min k kept) (s - min k kept * (f + 1)) else 0)) (d + 1) := by
  unfold kq
  rw [W_peel]
  refine sumD_same _ _ _ fun k _ => ?_
  congr 1
  by_cases h : min k kept * (f + 1) ≤ s
  · rw [if_pos h]
    refine W_same _ _ _ _ fun t _ => ?_
    rw [take_peel, sum_peel]
    congr 1
    rw [Bool.eq_iff_iff]; simp; omega
  · rw [if_neg h, ← W_null (d - k) f]
    refine W_same _ _ _ _ fun t _ => ?_
    rw [take_peel, sum_peel]
    have : (min k kept * (f + 1) + (t.take (kept - min k kept)).sum == s) = false := by simp; omega
    rw [this]; rfl
theorem kq_done (d f s : Nat) : kq d f 0 s = if s = 0 then f ^ d else 0 := by
  unfold kq
  by_cases h : s = 0
  · subst h; rw [if_pos rfl, ← W_all]; exact W_same _ _ _ _ fun t _ => by simp [is]
  · rw [if_neg h]
    refine Eq.trans (W_same _ _ _ _ fun t _ => ?_) (W_null d f)
    have : ((t.take 0).sum == s) = false := by simpa using fun e : 0 = s => h e.symm
    rw [this]; rfl
theorem kq_zero (f kept s : Nat) : kq 0 f kept s = if s = 0 then 1 else 0 := by
  unfold kq
  rw [W_zero]
  by_cases h : s = 0
  · subst h; simp [is]
  · rw [if_neg h]; have : (([] : List Nat).take kept).sum = 0 := by simp
    have : ((([] : List Nat).take kept).sum == s) = false := by rw [this]; simpa using fun e : 0 = s => h e.symm
    rw [this]; rfl
theorem sum_le (b : Nat) : ∀ t : List Nat, (∀ x ∈ t, x ≤ b) → t.sum ≤ t.length * b
  | [], _ => by simp
  | a :: r, h => by
    rw [List.sum_cons, List.length_cons, Nat.add_mul]
    have := sum_le b r (fun x hx => h x (by simp [hx])); have := h a (by simp); omega
theorem kept_le (d f kept : Nat) (hk : kept ≤ d) (t : List Nat) (h : t ∈ ups d f) : (t.take kept).sum ≤ kept * f := by
  have h1 := sum_le f (t.take kept) fun x hx => (ups_in d f t h x (List.mem_of_mem_take hx)).2
  rw [List.length_take, ups_len d f t h, Nat.min_eq_left hk] at h1
  exact h1
theorem kq_over (d f kept s : Nat) (hk : kept ≤ d) (h : kept * f < s) : kq d f kept s = 0 := by
  unfold kq
  rw [← W_null d f]
  refine W_same _ _ _ _ fun t ht => ?_
  have := kept_le d f kept hk t ht
  have e : ((t.take kept).sum == s) = false := by simp; omega
  rw [e]; rfl
theorem is_sum (n m : Nat) (F : Nat → Nat) (h : m < n) : sumD (fun s => is (m == s) * F s) n = F m := by
  rw [sumD_one _ m n h]
  · simp [is]
  · intro i _ hi; have : (m == i) = false := by simp; omega
    rw [this]; simp [is]
/-- weighed by the sum of what is kept -/
theorem kq_total (d f kept n : Nat) (hk : kept ≤ d) (F : Nat → Nat) (hn : kept * f < n) : sumD (fun s => kq d f kept s * F s) n = W d f (fun t => F (t.take kept).sum) := by
  unfold kq
  rw [sumD_same _ (fun s => W d f (fun t => is ((t.take kept).sum == s) * F s)) _ (fun s _ => by
    rw [Nat.mul_comm, ← W_mul]; exact W_same _ _ _ _ fun t _ => Nat.mul_comm _ _), W_sumTo]
  exact W_same _ _ _ _ fun t ht => is_sum _ _ _ (by have := kept_le d f kept hk t ht; omega)
theorem kq_all (d f kept n : Nat) (hk : kept ≤ d) (hn : kept * f < n) : sumD (kq d f kept) n = f ^ d := by
  have := kq_total d f kept n hk (fun _ => 1) hn
  rw [W_all] at this
  rw [← this]
  exact sumD_same _ _ _ fun i _ => by simp

/-! sums of all dice, one die after another -/
def sh (c : Nat) (h : Nat → Nat) (s : Nat) : Nat := if c ≤ s then h (s - c) else 0
def cv : Nat → Nat → Nat → Nat
  | 0, _, s => if s = 0 then 1 else 0
  | d + 1, f, s => sumD (fun a => sh (a + 1) (cv d f) s) f
theorem cv_over (f : Nat) : ∀ d s, d * f < s → cv d f s = 0
  | 0, s, h => by simp [cv]; omega
  | d + 1, s, h => by
    refine sumD_none _ _ fun a ha => ?_
    unfold sh
    by_cases hc : a + 1 ≤ s
    · rw [if_pos hc]; rw [Nat.add_mul] at h; exact cv_over f d _ (by omega)
    · rw [if_neg hc]
theorem sh_total (X c n : Nat) (h : Nat → Nat) : sumD (fun s => sh c h s * X ^ s) (c + n) = X ^ c * sumD (fun s => h s * X ^ s) n := by
  rw [sumD_app, sumD_none _ c (fun i hi => by unfold sh; rw [if_neg (by omega)]; simp), Nat.zero_add, ← sumD_mul]
  refine sumD_same _ _ _ fun i _ => ?_
  unfold sh
  rw [if_pos (by omega), Nat.add_sub_cancel_left, Nat.pow_add, Nat.mul_left_comm]
theorem cv_total (X f : Nat) : ∀ d n, d * f < n → sumD (fun s => cv d f s * X ^ s) n = pw X f ^ d
  | 0, n, h => by
    rw [sumD_one _ 0 n (by omega)]
    · simp [cv]
    · intro i _ hi; simp [cv, hi]
  | d + 1, n, h => by
    have hdf : (d + 1) * f = d * f + f := Nat.succ_mul d f
    have e : ∀ s, cv (d + 1) f s * X ^ s = sumD (fun a => sh (a + 1) (cv d f) s * X ^ s) f := by
      intro s
      rw [Nat.mul_comm, cv, ← sumD_mul]
      exact sumD_same _ _ _ fun a _ => Nat.mul_comm _ _
    rw [sumD_same _ _ _ (fun s _ => e s), sumD_swap]
    have e2 : ∀ a, a < f → sumD (fun s => sh (a + 1) (cv d f) s * X ^ s) n = X ^ (a + 1) * pw X f ^ d := by
      intro a ha
      rw [show n = (a + 1) + (n - (a + 1)) by omega, sh_total, cv_total X f d _ (by omega)]
    rw [sumD_same _ _ _ e2, Nat.pow_succ, Nat.mul_comm]
    unfold pw
    rw [Nat.mul_comm, ← sumD_mul]
    exact sumD_same _ _ _ fun a _ => Nat.mul_comm _ _
theorem cv_le (f d s : Nat) : cv d f s ≤ f ^ d := by
  have h := cv_total 1 f d (d * f + s + 1) (by omega)
  rw [pw_one] at h
  rw [← h]
  have : ∀ (g : Nat → Nat) (n m : Nat), m < n → g m ≤ sumD g n := by
    intro g n
    induction n with
    | zero => intro m hm; omega
    | succ n ih => intro m hm; show _ ≤ sumD g n + g n; by_cases e : m = n
                   · subst e; omega
                   · have := ih m (by omega); omega
  have := this (fun s => cv d f s * 1 ^ s) (d * f + s + 1) s (by omega)
  simpa using this

/-- digits of a number -/
theorem digits (X : Nat) (hX : 0 < X) (g h : Nat → Nat) : ∀ n, (∀ i, i < n → g i < X) → (∀ i, i < n → h i < X) → sumD (fun s => g s * X ^ s) n = sumD (fun s => h s * X ^ s) n → ∀ i, i < n → g i = h i := by
  have small : ∀ (g : Nat → Nat) n, (∀ i, i < n → g i < X) → sumD (fun s => g s * X ^ s) n < X ^ n := by
    intro g n
    induction n with
    | zero => intro _; simp [sumD]
    | succ n ih =>
      intro hg
      show sumD _ n + g n * X ^ n < _
      have h1 := ih (fun i hi => hg i (by omega))
      have h2 : g n * X ^ n ≤ (X - 1) * X ^ n := Nat.mul_le_mul_right _ (by have := hg n (by omega); omega)
      have h3 : (X - 1) * X ^ n + X ^ n = X ^ (n + 1) := by
        rw [Nat.pow_succ, Nat.mul_comm (X ^ n) X]
        conv => rhs; rw [show X = (X - 1) + 1 by omega, Nat.add_mul, Nat.one_mul]
        rw [show X - 1 + 1 = X by omega]
      omega
  intro n
  induction n with
  | zero => intro _ _ _ i hi; omega
  | succ n ih =>
    intro hg hh he i hi
    have hp : 0 < X ^ n := Nat.pow_pos hX
    have s1 := small g n (fun i hi => hg i (by omega))
    have s2 := small h n (fun i hi => hh i (by omega))
    have e1 : sumD (fun s => g s * X ^ s) n + g n * X ^ n = sumD (fun s => h s * X ^ s) n + h n * X ^ n := he
    have m1 : (sumD (fun s => g s * X ^ s) n + g n * X ^ n) % X ^ n = sumD (fun s => g s * X ^ s) n := by
      rw [Nat.add_mul_mod_self_right, Nat.mod_eq_of_lt s1]
    have m2 : (sumD (fun s => h s * X ^ s) n + h n * X ^ n) % X ^ n = sumD (fun s => h s * X ^ s) n := by
      rw [Nat.add_mul_mod_self_right, Nat.mod_eq_of_lt s2]
    have em : sumD (fun s => g s * X ^ s) n = sumD (fun s => h s * X ^ s) n := by rw [← m1, ← m2, e1]
    by_cases hin : i = n
    · subst hin
      have : g i * X ^ i = h i * X ^ i := by omega
      exact Nat.eq_of_mul_eq_mul_right hp this
    · exact ih (fun i hi => hg i (by omega)) (fun i hi => hh i (by omega)) em i (by omega)

theorem kq_cv (d f s : Nat) : kq d f d s = cv d f s := by
  have hX : 0 < f ^ d + 1 := by omega
  refine digits (f ^ d + 1) hX _ _ (d * f + s + 1) (fun i _ => by have := kq_le d f d i; omega) (fun i _ => by have := cv_le f d i; omega) ?_ s (by omega)
  rw [cv_total _ _ _ _ (by omega), kq_total d f d _ (Nat.le_refl _) (fun s => (f ^ d + 1) ^ s) (by omega), ← W_pow]
  exact W_same _ _ _ _ fun t ht => by rw [List.take_of_length_le (by rw [ups_len d f t ht]; omega)]

/-! the greatest face, and a face -/
theorem W_up (b : Nat) : ∀ c d, W d (b + c) (fun t => is (t.all (· ≤ b))) = b ^ d
  | 0, d => by
    rw [← W_all]
    refine W_same _ _ _ _ fun t ht => ?_
    have : t.all (· ≤ b) = true := by simp; intro x hx; exact (ups_in _ _ _ ht x hx).2
    rw [this]; rfl
  | c + 1, d => by
    rw [show b + (c + 1) = (b + c) + 1 by omega, W_peel, sumD_one _ 0 (d + 1) (by omega)]
    · rw [bin_zero, Nat.one_mul]; exact W_up b c d
    · intro k _ hk
      have : W (d - k) (b + c) (fun t => is ((List.replicate k (b + c + 1) ++ t).all (· ≤ b))) = 0 := by
        rw [← W_null (d - k) (b + c)]
        refine W_same _ _ _ _ fun t _ => ?_
        obtain ⟨j, rfl⟩ : ∃ j, k = j + 1 := ⟨k - 1, by omega⟩
        have : (List.replicate (j + 1) (b + c + 1) ++ t).all (· ≤ b) = false := by
          rw [List.replicate_succ, List.cons_append, List.all_cons]
          have : decide (b + c + 1 ≤ b) = false := by simp; omega
          rw [this]; rfl
        rw [this]; rfl
      rw [this]; rfl
theorem head_all (d f b : Nat) (t : List Nat) (h : t ∈ ups (d + 1) f) : t.all (· ≤ b) = decide (t.headD 0 ≤ b) := by
  have hp := ups_down _ _ _ h
  have hl := ups_len _ _ _ h
  cases t with
  | nil => simp at hl
  | cons a r =>
    rw [List.pairwise_cons] at hp
    rw [Bool.eq_iff_iff]; simp
    intro hab x hx; have := hp.1 x hx; omega
/-- CountGreatest -/
theorem W_greatest (d f b : Nat) (hb : b + 1 ≤ f) : W (d + 1) f (fun t => is (t.headD 0 == b + 1)) + b ^ (d + 1) = (b + 1) ^ (d + 1) := by
  obtain ⟨c, rfl⟩ : ∃ c, f = b + 1 + c := ⟨f - (b + 1), by omega⟩
  have h1 := W_up (b + 1) c (d + 1)
  have h2 := W_up b (c + 1) (d + 1)
  rw [show b + (c + 1) = b + 1 + c by omega] at h2
  rw [← h1, ← h2, ← W_add]
  refine W_same _ _ _ _ fun t ht => ?_
  rw [head_all _ _ _ _ ht, head_all _ _ _ _ ht]
  by_cases e : t.headD 0 = b + 1
  · rw [e]; have : decide (b + 1 ≤ b) = false := by simp
    simp [is]
  · have e1 : (t.headD 0 == b + 1) = false := beq_eq_false_iff_ne.2 e
    have e2 : decide (t.headD 0 ≤ b + 1) = decide (t.headD 0 ≤ b) := by
      rw [Bool.eq_iff_iff]; simp only [decide_eq_true_eq]; omega
    rw [e1, e2]; simp [is]
theorem W_without (a : Nat) : ∀ c d, W d (a + 1 + c) (fun t => is (!t.contains (a + 1))) = (a + c) ^ d
  | 0, d => by
    rw [Nat.add_zero, Nat.add_zero, W_peel, sumD_one _ 0 (d + 1) (by omega)]
    · rw [bin_zero, Nat.one_mul, ← W_all]
      refine W_same _ _ _ _ fun t ht => ?_
      have : t.contains (a + 1) = false := by
        rw [Bool.eq_false_iff]; intro hx; simp at hx
        have := (ups_in _ _ _ ht _ hx).2; omega
      simp only [List.replicate_zero, List.nil_append, this]; rfl
    · intro k _ hk
      have : W (d - k) a (fun t => is (!(List.replicate k (a + 1) ++ t).contains (a + 1))) = 0 := by
        rw [← W_null (d - k) a]
        refine W_same _ _ _ _ fun t _ => ?_
        obtain ⟨j, rfl⟩ : ∃ j, k = j + 1 := ⟨k - 1, by omega⟩
        have : (List.replicate (j + 1) (a + 1) ++ t).contains (a + 1) = true := by simp [List.replicate_succ]
        rw [this]; rfl
      rw [this]; rfl
  | c + 1, d => by
    rw [show a + 1 + (c + 1) = (a + 1 + c) + 1 by omega, W_peel, show a + (c + 1) = 1 + (a + c) by omega, ← bino]
    refine sumD_same _ _ _ fun k _ => ?_
    rw [Nat.one_pow, Nat.one_mul, ← W_without a c (d - k)]
    congr 1
    refine W_same _ _ _ _ fun t _ => ?_
    congr 2
    rw [Bool.eq_iff_iff]; simp [List.mem_append, List.mem_replicate]
    intro _; omega
/-- CountSome -/
theorem W_some (d f a : Nat) (ha : a + 1 ≤ f) : W d f (fun t => is (t.contains (a + 1))) + (f - 1) ^ d = f ^ d := by
  obtain ⟨c, rfl⟩ : ∃ c, f = a + 1 + c := ⟨f - (a + 1), by omega⟩
  rw [← W_not d (a + 1 + c) (fun t => t.contains (a + 1)), W_without, show a + 1 + c - 1 = a + c by omega]

end Go.Proofs.Ytnohpclaccaijab

namespace Go.Proofs.Ytnohpclaccaijab

def gt (t : List Nat) (i : Nat) : Nat := t.getD i 0
theorem gt_at (t : List Nat) (i : Nat) (h : i < t.length) : gt t i = t[i] := by simp [gt, h]
theorem gt_over (t : List Nat) (i : Nat) (h : t.length ≤ i) : gt t i = 0 := by simp [gt, h]
theorem gt_take (t : List Nat) (i : Nat) (h : i < t.length) : t.take (i + 1) = t.take i ++ [gt t i] := by
  rw [List.take_succ_eq_append_getElem h, gt_at t i h]
theorem gt_bd {d f : Nat} {t : List Nat} (h : t ∈ ups d f) {i : Nat} (hi : i < d) : 1 ≤ gt t i ∧ gt t i ≤ f := by
  have hl := ups_len d f t h
  rw [gt_at t i (by omega)]
  exact ups_in d f t h _ (List.getElem_mem _)
theorem gt_le {d f : Nat} {t : List Nat} (h : t ∈ ups d f) (i : Nat) : gt t i ≤ f := by
  by_cases hi : i < d
  · exact (gt_bd h hi).2
  · rw [gt_over t i (by rw [ups_len d f t h]; omega)]; omega
theorem gt_down {d f : Nat} {t : List Nat} (h : t ∈ ups d f) {i j : Nat} (hij : i ≤ j) (hj : j < d) : gt t j ≤ gt t i := by
  have hl := ups_len d f t h
  rcases Nat.lt_or_ge i j with h1 | h1
  · rw [gt_at t i (by omega), gt_at t j (by omega)]
    exact (List.pairwise_iff_getElem.1 (ups_down d f t h)) i j (by omega) (by omega) h1
  · obtain rfl : i = j := by omega
    exact Nat.le_refl _
theorem gt_ext {s t : List Nat} (hl : s.length = t.length) (h : ∀ i, i < t.length → gt s i = gt t i) : s = t := by
  apply List.ext_getElem hl
  intro i h1 h2
  rw [← gt_at s i h1, ← gt_at t i h2]
  exact h i h2
theorem gt_rep (d a i : Nat) (h : i < d) : gt (List.replicate d a) i = a := by rw [gt_at _ _ (by simpa using h)]; simp

def lastP : Nat → List Nat → Nat
  | b, [] => b
  | _, p :: ps => lastP p ps
theorem lastP_snoc (x : Nat) : ∀ (b : Nat) (l : List Nat), lastP b (l ++ [x]) = x
  | _, [] => rfl
  | _, p :: ps => lastP_snoc x p ps
theorem nxl_pre (a m : Nat) : ∀ (pre : List Nat) (b : Nat), a < lastP b pre → nxl b (pre ++ List.replicate (m + 1) a) = some (pre ++ (a + 1) :: List.replicate m 1)
  | [], b, h => by
    have h' : a < b := h
    rw [List.nil_append, List.replicate_succ]
    unfold nxl
    rw [nxl_last]
    simp [h']
  | p :: ps, b, h => by
    rw [List.cons_append]
    exact nxl_cons b p _ _ (nxl_pre a m ps p h)

theorem gt_next {d f j : Nat} {t y : List Nat} (ht : t ∈ ups d f) (hy : nxl f t = some y) (hj : j < d) (he : ∀ i, j ≤ i → i < d → gt t i = gt t j) (h0 : j = 0 ∨ gt t j ≠ gt t (j - 1)) (i : Nat) :
    gt y i = if i = j then gt t j + 1 else if j < i ∧ i < d then 1 else gt t i := by
  have hl := ups_len d f t ht
  have hd : t.drop j = List.replicate (d - 1 - j + 1) (gt t j) := by
    apply gt_ext
    · simp; omega
    · intro i hi
      rw [List.length_replicate] at hi
      rw [gt_rep _ _ _ hi, ← he (j + i) (by omega) (by omega)]
      simp [gt]
  have ht' : t.take j ++ List.replicate (d - 1 - j + 1) (gt t j) = t := by rw [← hd, List.take_append_drop]
  have hlt : gt t j < lastP f (t.take j) := by
    rcases h0 with rfl | h0
    · have h1 := (gt_bd ht hj).2
      show gt t 0 < f
      rcases Nat.lt_or_ge (gt t 0) f with h2 | h2
      · exact h2
      · exfalso
        have h3 : gt t 0 = f := by omega
        rw [List.take_zero, List.nil_append, h3] at ht'
        rw [← ht', nxl_last] at hy
        cases hy
    · by_cases hj0 : j = 0
      · subst hj0; simp at h0
      · have h1 := gt_down ht (show j - 1 ≤ j by omega) hj
        have e := gt_take t (j - 1) (by omega)
        rw [show j - 1 + 1 = j by omega] at e
        rw [e, lastP_snoc]
        omega
  have hn := nxl_pre (gt t j) (d - 1 - j) (t.take j) f hlt
  rw [ht', hy] at hn
  injection hn with hn
  have htk : (t.take j).length = j := by rw [List.length_take]; omega
  rw [hn]
  by_cases h1 : i = j
  · subst h1
    rw [if_pos rfl]
    unfold gt
    rw [List.getD_eq_getElem?_getD, List.getElem?_append_right (by omega), htk, Nat.sub_self]
    rfl
  · rw [if_neg h1]
    by_cases h2 : j < i ∧ i < d
    · rw [if_pos h2]
      obtain ⟨m, rfl⟩ : ∃ m, i = j + 1 + m := ⟨i - (j + 1), by omega⟩
      unfold gt
      rw [List.getD_eq_getElem?_getD, List.getElem?_append_right (by omega), htk, show j + 1 + m - j = m + 1 by omega, List.getElem?_cons_succ, List.getElem?_replicate, if_pos (by omega)]
      rfl
    · rw [if_neg h2]
      rcases Nat.lt_or_ge i j with h3 | h3
      · unfold gt
        rw [List.getD_eq_getElem?_getD, List.getElem?_append_left (by omega), List.getElem?_take_of_lt h3, List.getD_eq_getElem?_getD]
      · rw [gt_over t i (by omega), gt_over]
        simp; omega

/-- how many of the dice before one have the face of the last of them -/
def same (t : List Nat) (k : Nat) : Nat := if k = 0 then 0 else (t.take k).count (gt t (k - 1))
theorem same_le (t : List Nat) (k : Nat) : same t k ≤ k := by
  unfold same
  by_cases h : k = 0
  · rw [if_pos h]; omega
  · rw [if_neg h]
    exact Nat.le_trans List.count_le_length (List.length_take_le _ _)
theorem same_pos (t : List Nat) (k : Nat) (h : k < t.length) : 1 ≤ same t (k + 1) := by
  unfold same
  rw [if_neg (by omega), Nat.add_sub_cancel, gt_take t k h, List.count_append]
  simp
theorem same_keep {t : List Nat} {k : Nat} (h : k < t.length) (h0 : 0 < k) (he : gt t k = gt t (k - 1)) : same t (k + 1) = same t k + 1 := by
  unfold same
  rw [if_neg (by omega), if_neg (by omega), Nat.add_sub_cancel, gt_take t k h, List.count_append, he]
  simp
theorem same_new {d f : Nat} {t : List Nat} (ht : t ∈ ups d f) {k : Nat} (h : k < d) (he : k = 0 ∨ gt t k ≠ gt t (k - 1)) : same t (k + 1) = 1 := by
  have hl := ups_len d f t ht
  unfold same
  rw [if_neg (by omega), Nat.add_sub_cancel, gt_take t k (by omega), List.count_append]
  have : (t.take k).count (gt t k) = 0 := by
    apply List.count_eq_zero_of_not_mem
    intro hm
    obtain ⟨i, hi, e⟩ := List.getElem_of_mem hm
    rw [List.length_take] at hi
    rw [List.getElem_take, ← gt_at t i (by omega)] at e
    rcases he with he | he
    · omega
    · have h1 := gt_down ht (show i ≤ k - 1 by omega) (show k - 1 < d by omega)
      have h2 := gt_down ht (show k - 1 ≤ k by omega) h
      omega
  rw [this]; simp
theorem same_count {t : List Nat} {k : Nat} {d f : Nat} (ht : t ∈ ups d f) (h : k < d) : same t (k + 1) = (t.take k).count (gt t k) + 1 := by
  have hl := ups_len d f t ht
  unfold same
  rw [if_neg (by omega), Nat.add_sub_cancel, gt_take t k (by omega), List.count_append]
  simp
theorem ord_step {d f : Nat} {t : List Nat} (ht : t ∈ ups d f) {k : Nat} (h : k < d) : ordN (t.take k) * (k + 1) / same t (k + 1) = ordN (t.take (k + 1)) := by
  have hl := ups_len d f t ht
  rw [same_count ht h]
  have h1 := ups_take d f t ht (k + 1) (by omega)
  have h2 := ups_take d f t ht k (by omega)
  rw [gt_take t k (by omega)] at h1 ⊢
  exact ordN_snoc f k _ _ h1 h2
theorem ord_small {d f : Nat} {t : List Nat} (ht : t ∈ ups d f) {k : Nat} (h : k ≤ d) (hd : d ≤ 8) : ordN (t.take k) ≤ 40320 := by
  have h1 := ordN_le f k _ (ups_take d f t ht k h)
  have h2 : ∀ k, k ≤ 8 → fac k ≤ 40320 := by decide
  exact Nat.le_trans h1 (h2 k (by omega))
theorem ord_le8 {d f : Nat} {t : List Nat} (ht : t ∈ ups d f) (hd : d ≤ 8) : ordN t ≤ 40320 := by
  have h1 := ordN_le f d _ ht
  have h2 : ∀ k, k ≤ 8 → fac k ≤ 40320 := by decide
  exact Nat.le_trans h1 (h2 d hd)
end Go.Proofs.Ytnohpclaccaijab
