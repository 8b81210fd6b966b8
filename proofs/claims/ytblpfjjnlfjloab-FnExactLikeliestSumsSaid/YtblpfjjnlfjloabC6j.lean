/-
  Dice: the model's small functions.
-/
import Derived.Test.YtblpfjjnlfjloabC6p
import Derived.BigQuiet
import Derived.Deep.QuietTactic
import Derived.Test.YtblpfjjnlfjloabM1
namespace Go.Proofs.Ytblpfjjnlfjloab
open Go.RowKit

theorem l1In_d (n lo hi : Int) (w : World) : Calls Try.prog 34 #[.int .i64 n, .int .i64 lo, .int .i64 hi] w fun e w' => e = .returned (.bool (inB n lo hi)) ∧ w = w' := by
  go_enter Try.func34, Try.ntmps34
  by_cases h : lo ≤ n
  · have h1 : decide (lo ≤ n) = true := by simpa using h
    go_wp2
    go_ret
    exact ⟨ret_bool (by simp [inB, h1]), rfl⟩
  · have h1 : decide (lo ≤ n) = false := by simpa using h
    go_wp2
    go_ret
    exact ⟨ret_bool (by simp [inB, h1]), rfl⟩
theorem cupB_in (d f : Int) : cupB d f = (inB d 1 8 && inB f 1 12) := by
  rw [Bool.eq_iff_iff, cupB_iff, Bool.and_eq_true, inB_iff, inB_iff]; omega
theorem sumB_in (s : Int) : sumB s = inB s 0 200 := by
  rw [Bool.eq_iff_iff, sumB_iff, inB_iff]
theorem diAsked_any (d f : Int) (w : World) : Calls Try.prog 33 #[.int .i64 d, .int .i64 f] w fun e w' => e = .returned (.bool (cupB d f)) ∧ w = w' := by
  cases h1 : inB d 1 8 <;> cases h2 : inB f 1 12
  all_goals
    have hp := cupB_in d f
    rw [h1, h2] at hp
    simp only [Bool.and_true, Bool.and_false] at hp
    have HP := Lib.hid hp; clear hp
    go_enter Try.func33, Try.ntmps33
    go_wp2_with (go_at_call 34; refine (l1In_d _ _ _ _).mono ?_; rintro e w' ⟨rfl, rfl⟩)
    go_ret
    exact ⟨ret_bool HP.out.symm, rfl⟩
theorem keptB_in (d f k : Int) : keptB d f k = (cupB d f && inB k 1 d) := by
  rw [Bool.eq_iff_iff, keptB_iff, Bool.and_eq_true, cupB_iff, inB_iff]
theorem diKeep_any (d f k : Int) (w : World) : Calls Try.prog 43 #[.int .i64 d, .int .i64 f, .int .i64 k] w fun e w' => e = .returned (.bool (keptB d f k)) ∧ w = w' := by
  cases h1 : cupB d f <;> cases h2 : inB k 1 d
  all_goals
    have hp := keptB_in d f k
    rw [h1, h2] at hp
    simp only [Bool.and_true, Bool.and_false] at hp
    have HP := Lib.hid hp; clear hp
    have ha := fun w => diAsked_any d f w
    rw [h1] at ha
    have HA := Lib.hid ha; clear ha
    go_enter Try.func43, Try.ntmps43
    go_wp2_with (first | (go_at_call 33; refine (HA.out _).mono ?_; rintro e w' ⟨rfl, rfl⟩) | (go_at_call 34; refine (l1In_d _ _ _ _).mono ?_; rintro e w' ⟨rfl, rfl⟩))
    go_ret
    exact ⟨ret_bool HP.out.symm, rfl⟩

theorem pow_small12 {n k : Nat} (hn : n ≤ 12) (hk : k ≤ 8) : n ^ k ≤ 429981696 := by
  rcases Nat.eq_zero_or_pos n with h | h
  · subst h
    cases k with
    | zero => decide
    | succ k => simp
  · exact pow_12 hk hn h
set_option maxRecDepth 100000 in
theorem diPower_any (n t : Nat) (w : World) (hn : n ≤ 12) (ht : t ≤ 8) : Calls Try.prog 39 #[.int .i64 n, .int .i64 t] w fun e w' => e = .returned (.int .i64 (n ^ t : Nat)) ∧ w = w' := by
  go_enter Try.func39, Try.ntmps39
  go_wp2
  go_loop [1, 5] (fun i v => ∃ k V : Nat, k ≤ t ∧ i = .int .i64 k ∧ v = .int .i64 V ∧ V = n ^ (t - k)) (fun i _ => (intOf i).toNat)
  case atStart => exact ⟨t, 1, Nat.le_refl _, rfl, rfl, by simp⟩
  case round =>
    obtain ⟨k, V, hk, rfl, rfl, hV⟩ := hrel
    by_cases h0 : 0 < k
    · have hp := pow_small12 hn (show t - k + 1 ≤ 8 by omega)
      obtain ⟨P, hP⟩ : ∃ P, P = V * n := ⟨_, rfl⟩
      have e1 : P = n ^ (t - (k - 1)) := by rw [hP, hV, ← Nat.pow_succ]; congr 1; omega
      rw [show t - k + 1 = t - (k - 1) by omega, ← e1] at hp
      have hPi : (V : Int) * (n : Int) = (P : Int) := by rw [hP]; push_cast; rfl
      have hk1 : (k : Int) - 1 = ((k - 1 : Nat) : Int) := by omega
      have E1 := Lib.hid e1; have HK := Lib.hid hk1
      clear hV hP e1 hk1
      go_wp2
      go_round
      case rel => exact ⟨k - 1, P, by omega, by rw [HK.out], rfl, E1.out⟩
      case measure => simp [intOf]; omega
    · obtain rfl : k = 0 := by omega
      have HV := Lib.hid hV
      clear hV
      go_wp2
      go_ret
      exact ⟨ret_int (by rw [HV.out]; rfl), rfl⟩

theorem bin_small {n k : Nat} (hn : n ≤ 12) : bin n k ≤ 924 := by
  have h : ∀ n, n ≤ 12 → ∀ k, k ≤ 12 → bin n k ≤ 924 := by decide
  rcases Nat.lt_or_ge n k with h1 | h1
  · rw [bin_over n k h1]; omega
  · exact h n hn k (by omega)
set_option maxRecDepth 100000 in
theorem diChoose_any (n k : Nat) (w : World) (hn : n ≤ 12) (hk : k ≤ n) : Calls Try.prog 53 #[.int .i64 n, .int .i64 k] w fun e w' => e = .returned (.int .i64 (bin n k : Nat)) ∧ w = w' := by
  go_enter Try.func53, Try.ntmps53
  go_wp2
  go_loop [5, 6] (fun v i => ∃ j V : Nat, j ≤ k ∧ i = .int .i64 ((j : Int) + 1) ∧ v = .int .i64 V ∧ V = bin (n - k + j) j) (fun _ i => k + 1 - (intOf i).toNat)
  case atStart => exact ⟨0, 1, Nat.zero_le _, rfl, rfl, (bin_zero _).symm⟩
  case round =>
    obtain ⟨j, V, hj, rfl, rfl, hV⟩ := hrel
    by_cases hlt : j < k
    · have h1 : (j : Int) + 1 ≤ (k : Int) := by omega
      have hb := bin_up (n - k + j) j
      have hs := bin_small (show n - k + j ≤ 12 by omega) (k := j)
      have hs2 := bin_small (show n - k + j + 1 ≤ 12 by omega) (k := j + 1)
      rw [← hV] at hb hs
      obtain ⟨O2, hO2⟩ : ∃ O2, O2 = bin (n - k + j + 1) (j + 1) := ⟨_, rfl⟩
      rw [← hO2] at hb hs2
      obtain ⟨P, hP⟩ : ∃ P, P = V * (n - k + j + 1) := ⟨_, rfl⟩
      have hP9 : P ≤ 924 * 13 := by rw [hP]; exact Nat.mul_le_mul hs (by omega)
      have hsum : (n : Int) - (k : Int) + ((j : Int) + 1) = ((n - k + j + 1 : Nat) : Int) := by omega
      have hPi : (V : Int) * ((n : Int) - (k : Int) + ((j : Int) + 1)) = (P : Int) := by rw [hsum, hP]; push_cast; rfl
      have hq : (P : Int) / ((j : Int) + 1) = (O2 : Int) := by
        rw [hP, ← hb]
        have : (((O2 * (j + 1) : Nat) : Int)) = (O2 : Int) * ((j : Int) + 1) := by push_cast; rfl
        rw [this, Int.mul_ediv_cancel _ (by omega)]
      have HO := Lib.hid hO2
      have hjn : (0 : Int) < (j : Int) + 1 := by omega
      have hjn2 : (j : Int) + 1 ≠ 0 := by omega
      clear hb hV hP hsum hO2
      go_wp2
      go_round
      case rel => exact ⟨j + 1, O2, by omega, by go_num, rfl, HO.out⟩
      case measure => simp [intOf]; omega
    · obtain rfl : j = k := by omega
      have HV := Lib.hid hV
      have h1 : ¬ (j : Int) + 1 ≤ (j : Int) := by omega
      clear hV
      go_wp2
      go_ret
      exact ⟨ret_int (by rw [HV.out, show n - j + j = n by omega]), rfl⟩
end Go.Proofs.Ytblpfjjnlfjloab
