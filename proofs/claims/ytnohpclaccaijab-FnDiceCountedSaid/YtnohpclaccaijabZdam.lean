/- Several texts, one behind the other: C6p C6j C6u. -/
import Derived.BigQuiet
import Derived.Deep.QuietTactic
import Derived.Test.YtnohpclaccaijabZdab
import Derived.Test.YtnohpclaccaijabZdad
import Derived.Test.YtnohpclaccaijabZdaf
import Derived.Test.YtnohpclaccaijabZdal

namespace Go.Proofs.Ytnohpclaccaijab
open Go.RowKit

theorem pow_12 {d f : Nat} (hd : d ≤ 8) (hf : f ≤ 12) (hf1 : 1 ≤ f) : f ^ d ≤ 429981696 := by
  calc f ^ d ≤ f ^ 8 := Nat.pow_le_pow_right (by omega) hd
    _ ≤ 12 ^ 8 := Nat.pow_le_pow_left hf 8
    _ = 429981696 := by decide
theorem kf97 {f k : Nat} (hf : f ≤ 12) (hk : k ≤ 8) : k * f + 1 ≤ 97 := by have := Nat.mul_le_mul hk hf; omega
def keptB (d f k : Int) : Bool := cupB d f && decide (1 ≤ k ∧ k ≤ d)
theorem keptB_iff {d f k : Int} : keptB d f k = true ↔ (1 ≤ d ∧ d ≤ 8 ∧ 1 ≤ f ∧ f ≤ 12) ∧ 1 ≤ k ∧ k ≤ d := by simp [keptB, cupB_iff]
theorem keptB_self (d f : Int) : keptB d f d = cupB d f := by
  rw [Bool.eq_iff_iff, keptB_iff, cupB_iff]; omega
theorem keptB_nat {d f k : Int} (h : keptB d f k = true) : ∃ m n q : Nat, d = m ∧ f = n ∧ k = q ∧ 1 ≤ m ∧ m ≤ 8 ∧ 1 ≤ n ∧ n ≤ 12 ∧ 1 ≤ q ∧ q ≤ m := by
  have := keptB_iff.1 h
  exact ⟨d.toNat, f.toNat, k.toNat, by omega, by omega, by omega, by omega, by omega, by omega, by omega, by omega, by omega⟩
end Go.Proofs.Ytnohpclaccaijab

namespace Go.Proofs.Ytnohpclaccaijab
open Go.RowKit

theorem l1In_d (n lo hi : Int) (w : World) : Calls Try.prog 65 #[.int .i64 n, .int .i64 lo, .int .i64 hi] w fun e w' => e = .returned (.bool (inB n lo hi)) ∧ w = w' := by
  go_enter Try.func65, Try.ntmps65
  by_cases h : lo ≤ n
  · have h1 : decide (lo ≤ n) = true := by simpa using h
    go_wp2
    go_ret
    exact ⟨ret_bool (by simp [inB, h1]), rfl⟩
  · have h1 : decide (lo ≤ n) = false := by simpa using h
    go_wp2
    go_ret
    exact ⟨ret_bool (by simp [inB, h1]), rfl⟩
theorem cupB_in (d f : Int) : cupB d f = (inB d 1 8 && inB f 1 12) := by
  rw [Bool.eq_iff_iff, cupB_iff, Bool.and_eq_true, inB_iff, inB_iff]; omega
theorem sumB_in (s : Int) : sumB s = inB s 0 200 := by
  rw [Bool.eq_iff_iff, sumB_iff, inB_iff]
theorem diAsked_any (d f : Int) (w : World) : Calls Try.prog 52 #[.int .i64 d, .int .i64 f] w fun e w' => e = .returned (.bool (cupB d f)) ∧ w = w' := by
  cases h1 : inB d 1 8 <;> cases h2 : inB f 1 12
  all_goals
    have hp := cupB_in d f
    rw [h1, h2] at hp
    simp only [Bool.and_true, Bool.and_false] at hp
    have HP := Lib.hid hp; clear hp
    go_enter Try.func52, Try.ntmps52
    go_wp2_with (go_at_call 65; refine (l1In_d _ _ _ _).mono ?_; rintro e w' ⟨rfl, rfl⟩)
    go_ret
    exact ⟨ret_bool HP.out.symm, rfl⟩
theorem keptB_in (d f k : Int) : keptB d f k = (cupB d f && inB k 1 d) := by
  rw [Bool.eq_iff_iff, keptB_iff, Bool.and_eq_true, cupB_iff, inB_iff]
theorem diKeep_any (d f k : Int) (w : World) : Calls Try.prog 71 #[.int .i64 d, .int .i64 f, .int .i64 k] w fun e w' => e = .returned (.bool (keptB d f k)) ∧ w = w' := by
  cases h1 : cupB d f <;> cases h2 : inB k 1 d
  all_goals
    have hp := keptB_in d f k
    rw [h1, h2] at hp
    simp only [Bool.and_true, Bool.and_false] at hp
    have HP := Lib.hid hp; clear hp
    have ha := fun w => diAsked_any d f w
    rw [h1] at ha
    have HA := Lib.hid ha; clear ha
    go_enter Try.func71, Try.ntmps71
    go_wp2_with (first | (go_at_call 52; refine (HA.out _).mono ?_; rintro e w' ⟨rfl, rfl⟩) | (go_at_call 65; refine (l1In_d _ _ _ _).mono ?_; rintro e w' ⟨rfl, rfl⟩))
    go_ret
    exact ⟨ret_bool HP.out.symm, rfl⟩

theorem pow_small12 {n k : Nat} (hn : n ≤ 12) (hk : k ≤ 8) : n ^ k ≤ 429981696 := by
  rcases Nat.eq_zero_or_pos n with h | h
  · subst h
    cases k with
    | zero => decide
    | succ k => simp
  · exact pow_12 hk hn h
set_option maxRecDepth 100000 in
theorem diPower_any (n t : Nat) (w : World) (hn : n ≤ 12) (ht : t ≤ 8) : Calls Try.prog 69 #[.int .i64 n, .int .i64 t] w fun e w' => e = .returned (.int .i64 (n ^ t : Nat)) ∧ w = w' := by
  go_enter Try.func69, Try.ntmps69
  go_wp2
  go_loop [1, 5] (fun i v => ∃ k V : Nat, k ≤ t ∧ i = .int .i64 k ∧ v = .int .i64 V ∧ V = n ^ (t - k)) (fun i _ => (intOf i).toNat)
  case atStart => exact ⟨t, 1, Nat.le_refl _, rfl, rfl, by simp⟩
  case round =>
    obtain ⟨k, V, hk, rfl, rfl, hV⟩ := hrel
    by_cases h0 : 0 < k
    · have hp := pow_small12 hn (show t - k + 1 ≤ 8 by omega)
      obtain ⟨P, hP⟩ : ∃ P, P = V * n := ⟨_, rfl⟩
      have e1 : P = n ^ (t - (k - 1)) := by rw [hP, hV, ← Nat.pow_succ]; congr 1; omega
      rw [show t - k + 1 = t - (k - 1) by omega, ← e1] at hp
      have hPi : (V : Int) * (n : Int) = (P : Int) := by rw [hP]; push_cast; rfl
      have hk1 : (k : Int) - 1 = ((k - 1 : Nat) : Int) := by omega
      have E1 := Lib.hid e1; have HK := Lib.hid hk1
      clear hV hP e1 hk1
      go_wp2
      go_round
      case rel => exact ⟨k - 1, P, by omega, by rw [HK.out], rfl, E1.out⟩
      case measure => simp [intOf]; omega
    · obtain rfl : k = 0 := by omega
      have HV := Lib.hid hV
      clear hV
      go_wp2
      go_ret
      exact ⟨ret_int (by rw [HV.out]; rfl), rfl⟩

theorem bin_small {n k : Nat} (hn : n ≤ 12) : bin n k ≤ 924 := by
  have h : ∀ n, n ≤ 12 → ∀ k, k ≤ 12 → bin n k ≤ 924 := by decide
  rcases Nat.lt_or_ge n k with h1 | h1
  · rw [bin_over n k h1]; omega
  · exact h n hn k (by omega)
set_option maxRecDepth 100000 in
theorem diChoose_any (n k : Nat) (w : World) (hn : n ≤ 12) (hk : k ≤ n) : Calls Try.prog 78 #[.int .i64 n, .int .i64 k] w fun e w' => e = .returned (.int .i64 (bin n k : Nat)) ∧ w = w' := by
  go_enter Try.func78, Try.ntmps78
  go_wp2
  go_loop [5, 6] (fun v i => ∃ j V : Nat, j ≤ k ∧ i = .int .i64 ((j : Int) + 1) ∧ v = .int .i64 V ∧ V = bin (n - k + j) j) (fun _ i => k + 1 - (intOf i).toNat)
  case atStart => exact ⟨0, 1, Nat.zero_le _, rfl, rfl, (bin_zero _).symm⟩
  case round =>
    obtain ⟨j, V, hj, rfl, rfl, hV⟩ := hrel
    by_cases hlt : j < k
    · have h1 : (j : Int) + 1 ≤ (k : Int) := by omega
      have hb := bin_up (n - k + j) j
      have hs := bin_small (show n - k + j ≤ 12 by omega) (k := j)
      have hs2 := bin_small (show n - k + j + 1 ≤ 12 by omega) (k := j + 1)
      rw [← hV] at hb hs
      obtain ⟨O2, hO2⟩ : ∃ O2, O2 = bin (n - k + j + 1) (j + 1) := ⟨_, rfl⟩
      rw [← hO2] at hb hs2
      obtain ⟨P, hP⟩ : ∃ P, P = V * (n - k + j + 1) := ⟨_, rfl⟩
      have hP9 : P ≤ 924 * 13 := by rw [hP]; exact Nat.mul_le_mul hs (by omega)
      have hsum : (n : Int) - (k : Int) + ((j : Int) + 1) = ((n - k + j + 1 : Nat) : Int) := by omega
      have hPi : (V : Int) * ((n : Int) - (k : Int) + ((j : Int) + 1)) = (P : Int) := by rw [hsum, hP]; push_cast; rfl
      have hq : (P : Int) / ((j : Int) + 1) = (O2 : Int) := by
        rw [hP, ← hb]
        have : (((O2 * (j + 1) : Nat) : Int)) = (O2 : Int) * ((j : Int) + 1) := by push_cast; rfl
        rw [this, Int.mul_ediv_cancel _ (by omega)]
      have HO := Lib.hid hO2
      have hjn : (0 : Int) < (j : Int) + 1 := by omega
      have hjn2 : (j : Int) + 1 ≠ 0 := by omega
      clear hb hV hP hsum hO2
      go_wp2
      go_round
      case rel => exact ⟨j + 1, O2, by omega, by go_num, rfl, HO.out⟩
      case measure => simp [intOf]; omega
    · obtain rfl : j = k := by omega
      have HV := Lib.hid hV
      have h1 : ¬ (j : Int) + 1 ≤ (j : Int) := by omega
      clear hV
      go_wp2
      go_ret
      exact ⟨ret_int (by rw [HV.out, show n - j + j = n by omega]), rfl⟩
end Go.Proofs.Ytnohpclaccaijab

namespace Go.Proofs.Ytnohpclaccaijab
open Go.RowKit

theorem some_math (d f a : Nat) (h1 : 1 ≤ a) (h2 : a ≤ f) : W d f (fun t => is (decide (0 < t.count a))) + (f - 1) ^ d = f ^ d := by
  obtain ⟨b, rfl⟩ : ∃ b, a = b + 1 := ⟨a - 1, by omega⟩
  rw [← W_some d f b h2]
  congr 1
  exact W_same _ _ _ _ fun t _ => by congr 1; rw [Bool.eq_iff_iff]; simp
theorem greatest_math (d f a : Nat) (hd : 1 ≤ d) (h1 : 1 ≤ a) (h2 : a ≤ f) : W d f (fun t => is (gt t 0 == a)) + (a - 1) ^ d = a ^ d := by
  obtain ⟨b, rfl⟩ : ∃ b, a = b + 1 := ⟨a - 1, by omega⟩
  obtain ⟨e, rfl⟩ : ∃ e, d = e + 1 := ⟨d - 1, by omega⟩
  rw [← W_greatest e f b h2]
  congr 1
  exact W_same _ _ _ _ fun t _ => by congr 2; unfold gt; cases t <;> rfl
theorem faceB_in (f a : Int) : faceB f a = inB a 1 f := by rw [Bool.eq_iff_iff, faceB_iff, inB_iff]

set_option maxRecDepth 100000 in
theorem specCountSome_yes (d f a : Nat) (w : World) (hd1 : 1 ≤ d) (hd : d ≤ 8) (hf1 : 1 ≤ f) (hf : f ≤ 12) (ha1 : 1 ≤ a) (ha : a ≤ f) (N : Nat) (hN : N + (f - 1) ^ d = f ^ d) :
    Calls Try.prog 36 #[.int .i64 d, .int .i64 f, .int .i64 a] w fun e w' => e = .returned (.tuple #[.int .i64 N, .bool true]) ∧ Below w.heap.size w w' := by
  have hc : cupB (d : Int) (f : Int) = true := cupB_iff.2 (by omega)
  have hb : inB (a : Int) 1 (f : Int) = true := inB_iff.2 (by omega)
  have hp1 := fun w => diPower_any (f) d w (by omega) hd
  have hp2 := fun w => diPower_any (f - 1) d w (by omega) hd
  have hs := pow_small12 (show f ≤ 12 by omega) hd
  have hm : ((f : Nat) : Int) - 1 = ((f - 1 : Nat) : Int) := by omega
  obtain ⟨P, hP⟩ : ∃ P, P = f ^ d := ⟨_, rfl⟩
  obtain ⟨Q, hQ⟩ : ∃ Q, Q = (f - 1) ^ d := ⟨_, rfl⟩
  rw [← hP] at hp1 hN hs
  rw [← hQ] at hp2 hN
  have hPQ : (P : Int) - (Q : Int) = (N : Int) := by omega
  have hN9 : N ≤ 429981696 := by omega
  have HC := Lib.hid hc; have HB := Lib.hid hb; have HP1 := Lib.hid hp1; have HP2 := Lib.hid hp2
  clear hc hb hp1 hp2 hP hQ hN
  go_enter Try.func36, Try.ntmps36
  go_wp2_with fail
  refine (diAsked_any _ _ _).mono ?_
  rintro e w1 ⟨rfl, rfl⟩
  rw [HC.out]
  go_wp2_with fail
  refine (l1In_d _ _ _ _).mono ?_
  rintro e w1 ⟨rfl, rfl⟩
  rw [HB.out]
  go_wp2_with fail
  refine (HP1.out _).mono ?_
  rintro e w1 ⟨rfl, rfl⟩
  go_wp2_with fail
  refine (HP2.out _).mono ?_
  rintro e w1 ⟨rfl, rfl⟩
  go_wp2
  go_ret2
  exact ⟨rfl, Below.refl _ _⟩
set_option maxRecDepth 100000 in
theorem specCountSome_no (d f a : Int) (w : World) (h : cupB d f = false ∨ faceB f a = false) :
    Calls Try.prog 36 #[.int .i64 d, .int .i64 f, .int .i64 a] w fun e w' => e = .returned (.tuple #[.int .i64 0, .bool false]) ∧ Below w.heap.size w w' := by
  cases hc : cupB d f
  · have HC := Lib.hid hc
    clear hc h
    go_enter Try.func36, Try.ntmps36
    go_wp2_with fail
    refine (diAsked_any _ _ _).mono ?_
    rintro e w1 ⟨rfl, rfl⟩
    rw [HC.out]
    go_wp2
    go_ret2
    exact ⟨rfl, Below.refl _ _⟩
  · have hb : inB a 1 f = false := by
      rw [← faceB_in]
      rcases h with h | h
      · rw [hc] at h; cases h
      · exact h
    have HC := Lib.hid hc; have HB := Lib.hid hb
    clear hc hb h
    go_enter Try.func36, Try.ntmps36
    go_wp2_with fail
    refine (diAsked_any _ _ _).mono ?_
    rintro e w1 ⟨rfl, rfl⟩
    rw [HC.out]
    go_wp2_with fail
    refine (l1In_d _ _ _ _).mono ?_
    rintro e w1 ⟨rfl, rfl⟩
    rw [HB.out]
    go_wp2
    go_ret2
    exact ⟨rfl, Below.refl _ _⟩
theorem countSome_both (d f a : Int) : ∃ (x : Int) (ok : Bool),
    (∀ w, Calls Try.prog 36 #[.int .i64 d, .int .i64 f, .int .i64 a] w fun e w' => e = .returned (.tuple #[.int .i64 x, .bool ok]) ∧ Below w.heap.size w w') ∧
    (∀ w, Calls Try.prog 35 #[.int .i64 d, .int .i64 f, .int .i64 a] w fun e w' => e = .returned (.tuple #[.int .i64 x, .bool ok]) ∧ Below w.heap.size w w') := by
  by_cases h : cupB d f = true ∧ faceB f a = true
  · obtain ⟨hc, hs⟩ := h
    obtain ⟨m, n, rfl, rfl, h1, h2, h3, h4⟩ := cupB_nat hc
    have h5 := faceB_iff.1 hs
    obtain ⟨q, rfl⟩ : ∃ q : Nat, a = q := ⟨a.toNat, by omega⟩
    exact ⟨_, _, fun w => specCountSome_yes m n q w h1 h2 h3 h4 (by omega) (by omega) _ (some_math m n q (by omega) (by omega)), fun w => implCountSome_yes m n q w h1 h2 h3 h4 (by omega) (by omega)⟩
  · have h' : cupB d f = false ∨ faceB f a = false := by
      cases h1 : cupB d f
      · exact .inl rfl
      · cases h2 : faceB f a
        · exact .inr rfl
        · exact absurd ⟨h1, h2⟩ h
    exact ⟨0, false, fun w => specCountSome_no d f a w h', fun w => implCountSome_no d f a w h'⟩

set_option maxRecDepth 100000 in
theorem specCountGreatest_yes (d f a : Nat) (w : World) (hd1 : 1 ≤ d) (hd : d ≤ 8) (hf1 : 1 ≤ f) (hf : f ≤ 12) (ha1 : 1 ≤ a) (ha : a ≤ f) (N : Nat) (hN : N + (a - 1) ^ d = a ^ d) :
    Calls Try.prog 37 #[.int .i64 d, .int .i64 f, .int .i64 a] w fun e w' => e = .returned (.tuple #[.int .i64 N, .bool true]) ∧ Below w.heap.size w w' := by
  have hc : cupB (d : Int) (f : Int) = true := cupB_iff.2 (by omega)
  have hb : inB (a : Int) 1 (f : Int) = true := inB_iff.2 (by omega)
  have hp1 := fun w => diPower_any (a) d w (by omega) hd
  have hp2 := fun w => diPower_any (a - 1) d w (by omega) hd
  have hs := pow_small12 (show a ≤ 12 by omega) hd
  have hm : ((a : Nat) : Int) - 1 = ((a - 1 : Nat) : Int) := by omega
  obtain ⟨P, hP⟩ : ∃ P, P = a ^ d := ⟨_, rfl⟩
  obtain ⟨Q, hQ⟩ : ∃ Q, Q = (a - 1) ^ d := ⟨_, rfl⟩
  rw [← hP] at hp1 hN hs
  rw [← hQ] at hp2 hN
  have hPQ : (P : Int) - (Q : Int) = (N : Int) := by omega
  have hN9 : N ≤ 429981696 := by omega
  have HC := Lib.hid hc; have HB := Lib.hid hb; have HP1 := Lib.hid hp1; have HP2 := Lib.hid hp2
  clear hc hb hp1 hp2 hP hQ hN
  go_enter Try.func37, Try.ntmps37
  go_wp2_with fail
  refine (diAsked_any _ _ _).mono ?_
  rintro e w1 ⟨rfl, rfl⟩
  rw [HC.out]
  go_wp2_with fail
  refine (l1In_d _ _ _ _).mono ?_
  rintro e w1 ⟨rfl, rfl⟩
  rw [HB.out]
  go_wp2_with fail
  refine (HP1.out _).mono ?_
  rintro e w1 ⟨rfl, rfl⟩
  go_wp2_with fail
  refine (HP2.out _).mono ?_
  rintro e w1 ⟨rfl, rfl⟩
  go_wp2
  go_ret2
  exact ⟨rfl, Below.refl _ _⟩
set_option maxRecDepth 100000 in
theorem specCountGreatest_no (d f a : Int) (w : World) (h : cupB d f = false ∨ faceB f a = false) :
    Calls Try.prog 37 #[.int .i64 d, .int .i64 f, .int .i64 a] w fun e w' => e = .returned (.tuple #[.int .i64 0, .bool false]) ∧ Below w.heap.size w w' := by
  cases hc : cupB d f
  · have HC := Lib.hid hc
    clear hc h
    go_enter Try.func37, Try.ntmps37
    go_wp2_with fail
    refine (diAsked_any _ _ _).mono ?_
    rintro e w1 ⟨rfl, rfl⟩
    rw [HC.out]
    go_wp2
    go_ret2
    exact ⟨rfl, Below.refl _ _⟩
  · have hb : inB a 1 f = false := by
      rw [← faceB_in]
      rcases h with h | h
      · rw [hc] at h; cases h
      · exact h
    have HC := Lib.hid hc; have HB := Lib.hid hb
    clear hc hb h
    go_enter Try.func37, Try.ntmps37
    go_wp2_with fail
    refine (diAsked_any _ _ _).mono ?_
    rintro e w1 ⟨rfl, rfl⟩
    rw [HC.out]
    go_wp2_with fail
    refine (l1In_d _ _ _ _).mono ?_
    rintro e w1 ⟨rfl, rfl⟩
    rw [HB.out]
    go_wp2
    go_ret2
    exact ⟨rfl, Below.refl _ _⟩
theorem countGreatest_both (d f a : Int) : ∃ (x : Int) (ok : Bool),
    (∀ w, Calls Try.prog 37 #[.int .i64 d, .int .i64 f, .int .i64 a] w fun e w' => e = .returned (.tuple #[.int .i64 x, .bool ok]) ∧ Below w.heap.size w w') ∧
    (∀ w, Calls Try.prog 20 #[.int .i64 d, .int .i64 f, .int .i64 a] w fun e w' => e = .returned (.tuple #[.int .i64 x, .bool ok]) ∧ Below w.heap.size w w') := by
  by_cases h : cupB d f = true ∧ faceB f a = true
  · obtain ⟨hc, hs⟩ := h
    obtain ⟨m, n, rfl, rfl, h1, h2, h3, h4⟩ := cupB_nat hc
    have h5 := faceB_iff.1 hs
    obtain ⟨q, rfl⟩ : ∃ q : Nat, a = q := ⟨a.toNat, by omega⟩
    exact ⟨_, _, fun w => specCountGreatest_yes m n q w h1 h2 h3 h4 (by omega) (by omega) _ (greatest_math m n q h1 (by omega) (by omega)), fun w => implCountGreatest_yes m n q w h1 h2 h3 h4 (by omega) (by omega)⟩
  · have h' : cupB d f = false ∨ faceB f a = false := by
      cases h1 : cupB d f
      · exact .inl rfl
      · cases h2 : faceB f a
        · exact .inr rfl
        · exact absurd ⟨h1, h2⟩ h
    exact ⟨0, false, fun w => specCountGreatest_no d f a w h', fun w => implCountGreatest_no d f a w h'⟩
end Go.Proofs.Ytnohpclaccaijab
