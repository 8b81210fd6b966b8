/-
  The average sum of dice, and lowest terms of equal fractions. Plain mathematics.
-/
import Derived.Test.YtblpfjjnlfjloabM43
namespace Go.Proofs.Ytblpfjjnlfjloab

theorem low_same {a b x y : Nat} (hb : 0 < b) (hy : 0 < y) (h : a * y = x * b) : a / Nat.gcd a b = x / Nat.gcd x y ∧ b / Nat.gcd a b = y / Nat.gcd x y := by
  have hg := Nat.gcd_pos_of_pos_right a hb
  have hh := Nat.gcd_pos_of_pos_right x hy
  obtain ⟨a', ha⟩ := Nat.gcd_dvd_left a b
  obtain ⟨b', hb'⟩ := Nat.gcd_dvd_right a b
  obtain ⟨x', hx⟩ := Nat.gcd_dvd_left x y
  obtain ⟨y', hy'⟩ := Nat.gcd_dvd_right x y
  have c1 : Nat.Coprime a' b' := by
    have := Nat.coprime_div_gcd_div_gcd hg
    rw [Nat.div_eq_of_eq_mul_right hg ha, Nat.div_eq_of_eq_mul_right hg hb'] at this
    exact this
  have c2 : Nat.Coprime x' y' := by
    have := Nat.coprime_div_gcd_div_gcd hh
    rw [Nat.div_eq_of_eq_mul_right hh hx, Nat.div_eq_of_eq_mul_right hh hy'] at this
    exact this
  have h' : a' * y' = x' * b' := by
    have e : (Nat.gcd a b * Nat.gcd x y) * (a' * y') = (Nat.gcd a b * Nat.gcd x y) * (x' * b') := by
      calc (Nat.gcd a b * Nat.gcd x y) * (a' * y') = (Nat.gcd a b * a') * (Nat.gcd x y * y') := by ac_rfl
        _ = a * y := by rw [← ha, ← hy']
        _ = x * b := h
        _ = (Nat.gcd x y * x') * (Nat.gcd a b * b') := by rw [← hx, ← hb']
        _ = _ := by ac_rfl
    exact Nat.eq_of_mul_eq_mul_left (Nat.mul_pos hg hh) e
  have e1 : a' = x' := Nat.dvd_antisymm (c1.dvd_of_dvd_mul_right (by rw [← h']; exact Nat.dvd_mul_right _ _)) (c2.dvd_of_dvd_mul_right (by rw [h']; exact Nat.dvd_mul_right _ _))
  have e2 : b' = y' := Nat.dvd_antisymm (c1.symm.dvd_of_dvd_mul_left (by rw [h']; exact Nat.dvd_mul_left _ _)) (c2.symm.dvd_of_dvd_mul_left (by rw [← h']; exact Nat.dvd_mul_left _ _))
  exact ⟨by rw [Nat.div_eq_of_eq_mul_right hg ha, Nat.div_eq_of_eq_mul_right hh hx, e1], by rw [Nat.div_eq_of_eq_mul_right hg hb', Nat.div_eq_of_eq_mul_right hh hy', e2]⟩

theorem bino_k (x : Nat) (d : Nat) : sumD (fun k => bin (d + 1) k * (k * x ^ (d + 1 - k))) (d + 2) = (d + 1) * (1 + x) ^ d := by
  rw [sumD_head, show bin (d + 1) 0 * (0 * x ^ (d + 1 - 0)) = 0 by simp, Nat.zero_add, ← bino, ← sumD_mul]
  refine sumD_same _ _ _ fun k hk => ?_
  rw [← Nat.mul_assoc, bin_up, Nat.one_pow, Nat.one_mul, show d + 1 - (k + 1) = d - k by omega, Nat.mul_comm (bin d k), Nat.mul_assoc]
theorem W_sum (f : Nat) : ∀ d, 2 * W d f (fun t => t.sum) = d * (f + 1) * f ^ d := by
  induction f with
  | zero => intro d; cases d with
    | zero => rw [W_zero]; simp
    | succ d => rw [W_none]; simp
  | succ f ih =>
    intro d
    cases d with
    | zero => rw [W_zero]; simp
    | succ d =>
      rw [W_peel, ← sumD_mul]
      have e : ∀ k, k < d + 1 + 1 → 2 * (bin (d + 1) k * W (d + 1 - k) f (fun t => (List.replicate k (f + 1) ++ t).sum)) = (f + 1) * ((d + 1) * (bin (d + 1) k * (1 ^ k * f ^ (d + 1 - k)))) + (f + 1) * (bin (d + 1) k * (k * f ^ (d + 1 - k))) := by
        intro k hk
        have h1 : W (d + 1 - k) f (fun t => (List.replicate k (f + 1) ++ t).sum) = k * (f + 1) * f ^ (d + 1 - k) + W (d + 1 - k) f (fun t => t.sum) := by
          rw [← W_all, ← W_mul, ← W_add]
          exact W_same _ _ _ _ fun t _ => by rw [sum_peel, Nat.mul_one]
        have h2 := ih (d + 1 - k)
        have h3 : 2 * W (d + 1 - k) f (fun t => (List.replicate k (f + 1) ++ t).sum) = (f + 1) * ((d + 1) * f ^ (d + 1 - k)) + (f + 1) * (k * f ^ (d + 1 - k)) := by
          rw [h1, Nat.mul_add, h2]
          obtain ⟨j, hj⟩ : ∃ j, d + 1 = k + j := ⟨d + 1 - k, by omega⟩
          rw [hj, Nat.add_sub_cancel_left]
          generalize f ^ j = p
          rw [Nat.add_mul k j p, Nat.mul_add (f + 1)]
          have a1 : 2 * (k * (f + 1) * p) = (f + 1) * (k * p) + (f + 1) * (k * p) := by
            rw [Nat.two_mul]; congr 1 <;> (rw [Nat.mul_comm k, Nat.mul_assoc])
          have a2 : j * (f + 1) * p = (f + 1) * (j * p) := by rw [Nat.mul_comm j, Nat.mul_assoc]
          rw [a1, a2]
          omega
        rw [Nat.mul_left_comm, h3, Nat.mul_add, Nat.one_pow, Nat.one_mul]
        congr 1
        · rw [Nat.mul_left_comm (bin _ _) (f + 1), Nat.mul_left_comm (bin _ _) (d + 1)]
        · rw [Nat.mul_left_comm (bin _ _) (f + 1)]
      rw [sumD_same _ _ _ e, sumD_add, sumD_mul, sumD_mul, sumD_mul, bino, bino_k, Nat.add_comm 1 f, Nat.pow_succ]
      generalize (f + 1) ^ d = p
      have e1 : (f + 1) * ((d + 1) * (p * (f + 1))) = (d + 1) * (f + 1) * (p * (f + 1)) := by rw [Nat.mul_left_comm, Nat.mul_assoc]
      have e2 : (f + 1) * ((d + 1) * p) = (d + 1) * (p * (f + 1)) := by rw [Nat.mul_left_comm, Nat.mul_comm p]
      rw [e1, e2, Nat.mul_assoc (d + 1) (f + 1), Nat.mul_assoc (d + 1) (f + 1 + 1), ← Nat.mul_add]
      congr 1
      rw [Nat.add_mul (f + 1) 1, Nat.one_mul]
/-- the sum of all sums of throws -/
theorem tot_sum (d f : Nat) : 2 * sumD (fun i => i * kq d f d i) (d * f + 1) = d * (f + 1) * f ^ d := by
  rw [sumD_same _ (fun s => kq d f d s * s) _ (fun s _ => Nat.mul_comm _ _), kq_total d f d _ (Nat.le_refl _) (fun s => s) (by omega), ← W_sum]
  congr 1
  exact W_same _ _ _ _ fun t ht => by rw [List.take_of_length_le (by rw [ups_len d f t ht]; omega)]
end Go.Proofs.Ytblpfjjnlfjloab
