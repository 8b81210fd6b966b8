/-
  Dice: CountSame, CountRuns, CountEachFace on both sides.
-/
import Derived.Test.YtblpfjjnlfjloacC6t
import Derived.Test.YtblpfjjnlfjloacC6v
namespace Go.Proofs.Ytblpfjjnlfjloac
open Go.RowKit

theorem same_math (d f a : Nat) (h1 : 1 ≤ a) : W d f (fun t => is (mostN t f == a)) + mq d f (a - 1) = mq d f a := by
  obtain ⟨b, rfl⟩ : ∃ b, a = b + 1 := ⟨a - 1, by omega⟩
  exact mq_same d f b
theorem runs_math (d f a : Nat) (h1 : 1 ≤ a) : W d f (fun t => is (decide (a ≤ lonN t f))) = rq d f 0 a :=
  W_same _ _ _ _ fun t _ => by rw [rnB_lon t a f h1]
theorem each_math (d f : Nat) (h1 : 1 ≤ f) : W d f (fun t => is (decide (f ≤ lonN t f))) = sj f d := by
  rw [← sj_W]
  exact W_same _ _ _ _ fun t _ => by rw [each_lon t f h1]

set_option maxRecDepth 100000 in
theorem specCountSame_yes (d f a : Nat) (w : World) (hd1 : 1 ≤ d) (hd : d ≤ 8) (hf1 : 1 ≤ f) (hf : f ≤ 12) (ha1 : 1 ≤ a) (ha : a ≤ 8) (N : Nat) (hN : N + mq d f (a - 1) = mq d f a) :
    Calls Try.prog 15 #[.int .i64 d, .int .i64 f, .int .i64 a] w fun e w' => e = .returned (.tuple #[.int .i64 N, .bool true]) ∧ Below w.heap.size w w' := by
  have hc : cupB (d : Int) (f : Int) = true := cupB_iff.2 (by omega)
  have hb : inB (a : Int) 1 8 = true := inB_iff.2 (by omega)
  have hp1 := fun w => diMost_any f d a w hd hf ha
  have hp2 := fun w => diMost_any f d (a - 1) w hd hf (by omega)
  have hs := Nat.le_trans (mq_le d f a) (pow_small12 hf hd)
  have hm : (a : Int) - 1 = ((a - 1 : Nat) : Int) := by omega
  obtain ⟨P, hP⟩ : ∃ P, P = mq d f a := ⟨_, rfl⟩
  obtain ⟨Q, hQ⟩ : ∃ Q, Q = mq d f (a - 1) := ⟨_, rfl⟩
  rw [← hP] at hp1 hN hs
  rw [← hQ] at hp2 hN
  have hPQ : (P : Int) - (Q : Int) = (N : Int) := by omega
  have hN9 : N ≤ 429981696 := by omega
  have HC := Lib.hid hc; have HB := Lib.hid hb; have HP1 := Lib.hid hp1; have HP2 := Lib.hid hp2
  clear hc hb hp1 hp2 hP hQ hN
  go_enter Try.func15, Try.ntmps15
  go_wp2_with fail
  refine (diAsked_any _ _ _).mono ?_
  rintro e w1 ⟨rfl, rfl⟩
  rw [HC.out]
  go_wp2_with fail
  refine (l1In_d _ _ _ _).mono ?_
  rintro e w1 ⟨rfl, rfl⟩
  rw [HB.out]
  go_wp2_with fail
  refine (HP1.out _).mono ?_
  rintro e w1 ⟨rfl, rfl⟩
  go_wp2_with fail
  refine (HP2.out _).mono ?_
  rintro e w1 ⟨rfl, rfl⟩
  go_wp2
  go_ret2
  exact ⟨rfl, Below.refl _ _⟩
set_option maxRecDepth 100000 in
theorem specCountSame_no (d f a : Int) (w : World) (h : cupB d f = false ∨ (a < 1 ∨ 8 < a)) :
    Calls Try.prog 15 #[.int .i64 d, .int .i64 f, .int .i64 a] w fun e w' => e = .returned (.tuple #[.int .i64 0, .bool false]) ∧ Below w.heap.size w w' := by
  cases hc : cupB d f
  · have HC := Lib.hid hc
    clear hc h
    go_enter Try.func15, Try.ntmps15
    go_wp2_with fail
    refine (diAsked_any _ _ _).mono ?_
    rintro e w1 ⟨rfl, rfl⟩
    rw [HC.out]
    go_wp2
    go_ret2
    exact ⟨rfl, Below.refl _ _⟩
  · have hb : inB a 1 8 = false := by
      rw [inB_false]
      rcases h with h | h
      · rw [hc] at h; cases h
      · exact h
    have HC := Lib.hid hc; have HB := Lib.hid hb
    clear hc hb h
    go_enter Try.func15, Try.ntmps15
    go_wp2_with fail
    refine (diAsked_any _ _ _).mono ?_
    rintro e w1 ⟨rfl, rfl⟩
    rw [HC.out]
    go_wp2_with fail
    refine (l1In_d _ _ _ _).mono ?_
    rintro e w1 ⟨rfl, rfl⟩
    rw [HB.out]
    go_wp2
    go_ret2
    exact ⟨rfl, Below.refl _ _⟩
theorem countSame_both (d f a : Int) : ∃ (x : Int) (ok : Bool),
    (∀ w, Calls Try.prog 15 #[.int .i64 d, .int .i64 f, .int .i64 a] w fun e w' => e = .returned (.tuple #[.int .i64 x, .bool ok]) ∧ Below w.heap.size w w') ∧
    (∀ w, Calls Try.prog 16 #[.int .i64 d, .int .i64 f, .int .i64 a] w fun e w' => e = .returned (.tuple #[.int .i64 x, .bool ok]) ∧ Below w.heap.size w w') := by
  by_cases h : cupB d f = true ∧ (1 ≤ a ∧ a ≤ 8)
  · obtain ⟨hc, h5⟩ := h
    obtain ⟨m, n, rfl, rfl, h1, h2, h3, h4⟩ := cupB_nat hc
    obtain ⟨q, rfl⟩ : ∃ q : Nat, a = q := ⟨a.toNat, by omega⟩
    exact ⟨_, _, fun w => specCountSame_yes m n q w h1 h2 h3 h4 (by omega) (by omega) _ (same_math m n q (by omega)), fun w => implCountSame_yes m n q w h1 h2 h3 h4 (by omega) (by omega)⟩
  · have h' : cupB d f = false ∨ (a < 1 ∨ 8 < a) := by
      cases h1 : cupB d f
      · exact .inl rfl
      · right
        have : ¬ (1 ≤ a ∧ a ≤ 8) := fun e => h ⟨h1, e⟩
        omega
    exact ⟨0, false, fun w => specCountSame_no d f a w h', fun w => implCountSame_no d f a w h'⟩

set_option maxRecDepth 100000 in
theorem specCountRuns_yes (d f a : Nat) (w : World) (hd1 : 1 ≤ d) (hd : d ≤ 8) (hf1 : 1 ≤ f) (hf : f ≤ 12) (ha1 : 1 ≤ a) (ha : a ≤ 12) (N : Nat) (hN : N = rq d f 0 a) :
    Calls Try.prog 17 #[.int .i64 d, .int .i64 f, .int .i64 a] w fun e w' => e = .returned (.tuple #[.int .i64 N, .bool true]) ∧ Below w.heap.size w w' := by
  have hc : cupB (d : Int) (f : Int) = true := cupB_iff.2 (by omega)
  have hb : inB (a : Int) 1 12 = true := inB_iff.2 (by omega)
  have hp1 : ∀ w, Calls Try.prog 36 #[.int .i64 d, .int .i64 f, .int .i64 0, .int .i64 a] w fun e w' => e = .returned (.int .i64 (N : Nat)) ∧ w = w' := fun w => by rw [hN]; exact diRun_any f d 0 a w hd hf (Nat.zero_le _) ha ha1
  have HC := Lib.hid hc; have HB := Lib.hid hb; have HP1 := Lib.hid hp1
  clear hc hb hp1 hN
  go_enter Try.func17, Try.ntmps17
  go_wp2_with fail
  refine (diAsked_any _ _ _).mono ?_
  rintro e w1 ⟨rfl, rfl⟩
  rw [HC.out]
  go_wp2_with fail
  refine (l1In_d _ _ _ _).mono ?_
  rintro e w1 ⟨rfl, rfl⟩
  rw [HB.out]
  go_wp2_with fail
  refine (HP1.out _).mono ?_
  rintro e w1 ⟨rfl, rfl⟩
  go_wp2
  go_ret2
  exact ⟨rfl, Below.refl _ _⟩
set_option maxRecDepth 100000 in
theorem specCountRuns_no (d f a : Int) (w : World) (h : cupB d f = false ∨ (a < 1 ∨ 12 < a)) :
    Calls Try.prog 17 #[.int .i64 d, .int .i64 f, .int .i64 a] w fun e w' => e = .returned (.tuple #[.int .i64 0, .bool false]) ∧ Below w.heap.size w w' := by
  cases hc : cupB d f
  · have HC := Lib.hid hc
    clear hc h
    go_enter Try.func17, Try.ntmps17
    go_wp2_with fail
    refine (diAsked_any _ _ _).mono ?_
    rintro e w1 ⟨rfl, rfl⟩
    rw [HC.out]
    go_wp2
    go_ret2
    exact ⟨rfl, Below.refl _ _⟩
  · have hb : inB a 1 12 = false := by
      rw [inB_false]
      rcases h with h | h
      · rw [hc] at h; cases h
      · exact h
    have HC := Lib.hid hc; have HB := Lib.hid hb
    clear hc hb h
    go_enter Try.func17, Try.ntmps17
    go_wp2_with fail
    refine (diAsked_any _ _ _).mono ?_
    rintro e w1 ⟨rfl, rfl⟩
    rw [HC.out]
    go_wp2_with fail
    refine (l1In_d _ _ _ _).mono ?_
    rintro e w1 ⟨rfl, rfl⟩
    rw [HB.out]
    go_wp2
    go_ret2
    exact ⟨rfl, Below.refl _ _⟩
theorem countRuns_both (d f a : Int) : ∃ (x : Int) (ok : Bool),
    (∀ w, Calls Try.prog 17 #[.int .i64 d, .int .i64 f, .int .i64 a] w fun e w' => e = .returned (.tuple #[.int .i64 x, .bool ok]) ∧ Below w.heap.size w w') ∧
    (∀ w, Calls Try.prog 18 #[.int .i64 d, .int .i64 f, .int .i64 a] w fun e w' => e = .returned (.tuple #[.int .i64 x, .bool ok]) ∧ Below w.heap.size w w') := by
  by_cases h : cupB d f = true ∧ (1 ≤ a ∧ a ≤ 12)
  · obtain ⟨hc, h5⟩ := h
    obtain ⟨m, n, rfl, rfl, h1, h2, h3, h4⟩ := cupB_nat hc
    obtain ⟨q, rfl⟩ : ∃ q : Nat, a = q := ⟨a.toNat, by omega⟩
    exact ⟨_, _, fun w => specCountRuns_yes m n q w h1 h2 h3 h4 (by omega) (by omega) _ (runs_math m n q (by omega)), fun w => implCountRuns_yes m n q w h1 h2 h3 h4 (by omega) (by omega)⟩
  · have h' : cupB d f = false ∨ (a < 1 ∨ 12 < a) := by
      cases h1 : cupB d f
      · exact .inl rfl
      · right
        have : ¬ (1 ≤ a ∧ a ≤ 12) := fun e => h ⟨h1, e⟩
        omega
    exact ⟨0, false, fun w => specCountRuns_no d f a w h', fun w => implCountRuns_no d f a w h'⟩

theorem implEach_yes (d f : Nat) (w : World) (hd1 : 1 ≤ d) (hd : d ≤ 8) (hf1 : 1 ≤ f) (hf : f ≤ 12) :
    Calls Try.prog 12 #[.int .i64 d, .int .i64 f] w fun e w' => e = .returned (.tuple #[.int .i64 (sj f d : Nat), .bool true]) ∧ Below w.heap.size w w' := by
  have h := fun w => implCountRuns_yes d f f w hd1 hd hf1 hf hf1 hf
  rw [each_math d f hf1] at h
  have H := Lib.hid h
  clear h
  go_enter Try.func12, Try.ntmps12
  go_wp2_with fail
  refine (H.out _).mono ?_
  rintro e w1 ⟨rfl, hx1⟩
  go_wp2
  go_ret2
  exact ⟨rfl, hx1⟩
theorem implEach_no (d f : Int) (w : World) (h : cupB d f = false) :
    Calls Try.prog 12 #[.int .i64 d, .int .i64 f] w fun e w' => e = .returned (.tuple #[.int .i64 0, .bool false]) ∧ Below w.heap.size w w' := by
  go_enter Try.func12, Try.ntmps12
  go_wp2_with fail
  refine (implCountRuns_no d f f _ (.inl h)).mono ?_
  rintro e w1 ⟨rfl, hx1⟩
  go_wp2
  go_ret2
  exact ⟨rfl, hx1⟩
theorem ieT_bd (d f k : Nat) (hd : d ≤ 8) (hf : f ≤ 12) : 0 ≤ ieT d f k ∧ ieT d f k ≤ 924 * 429981696 := by
  unfold ieT
  have := Nat.mul_le_mul (bin_small hf (k := k)) (pow_small12 (show f - k ≤ 12 by omega) hd)
  omega
theorem ieS_bd (d f : Nat) (hd : d ≤ 8) (hf : f ≤ 12) : ∀ k : Nat, -((k : Int) * 397303087104) ≤ ieS d f k ∧ ieS d f k ≤ (k : Int) * 397303087104
  | 0 => by simp [ieS]
  | k + 1 => by
    have h1 := ieS_bd d f hd hf k
    have h2 := ieT_bd d f k hd hf
    unfold ieS
    by_cases h : k % 2 = 0
    · rw [if_pos h]; omega
    · rw [if_neg h]; omega
set_option maxRecDepth 100000 in
set_option maxHeartbeats 1000000 in
theorem specEach_yes (d f : Nat) (w : World) (hd1 : 1 ≤ d) (hd : d ≤ 8) (hf1 : 1 ≤ f) (hf : f ≤ 12) :
    Calls Try.prog 11 #[.int .i64 d, .int .i64 f] w fun e w' => e = .returned (.tuple #[.int .i64 (sj f d : Nat), .bool true]) ∧ Below w.heap.size w w' := by
  have hc : cupB (d : Int) (f : Int) = true := cupB_iff.2 (by omega)
  have hie := sj_ie d hd f hf
  have HC := Lib.hid hc; have HIE := Lib.hid hie
  clear hc hie
  go_enter Try.func11, Try.ntmps11
  go_wp2_with fail
  refine (diAsked_any _ _ _).mono ?_
  rintro e w1 ⟨rfl, rfl⟩
  rw [HC.out]
  go_wp2_with fail
  go_loop [6, 7, 8] (fun v i _ => ∃ (k : Nat) (V : Int), k ≤ f + 1 ∧ i = .int .i64 k ∧ v = .int .i64 V ∧ V = ieS d f k) (fun _ i _ => f + 1 - (intOf i).toNat)
  case atStart => exact ⟨0, 0, Nat.zero_le _, rfl, rfl, rfl⟩
  case round =>
    obtain ⟨k, V, hk, rfl, rfl, hV⟩ := hrel
    by_cases hkf : k ≤ f
    · have h1 : (k : Int) ≤ (f : Int) := by omega
      have hb := ieS_bd d f hd hf k
      rw [← hV] at hb
      have hb2 : -(13 * (924 * 429981696) : Int) ≤ V ∧ V ≤ 13 * (924 * 429981696) := by omega
      have ht := ieT_bd d f k hd hf
      have hst : ieS d f (k + 1) = if k % 2 = 0 then V + ieT d f k else V - ieT d f k := by rw [hV]; rfl
      have hch := fun w => diChoose_any f k w hf hkf
      have hpw := fun w => diPower_any (f - k) d w (by omega) hd
      have hc9 := bin_small hf (k := k)
      have hp9 := pow_small12 (show f - k ≤ 12 by omega) hd
      have htd : ieT d f k = ((bin f k * (f - k) ^ d : Nat) : Int) := rfl
      obtain ⟨C, hC⟩ : ∃ C, C = bin f k := ⟨_, rfl⟩
      obtain ⟨P, hP⟩ : ∃ P, P = (f - k) ^ d := ⟨_, rfl⟩
      rw [← hC, ← hP] at htd
      rw [← hC] at hch hc9
      rw [← hP] at hpw hp9
      obtain ⟨Q, hQ⟩ : ∃ Q, Q = C * P := ⟨_, rfl⟩
      rw [← hQ] at htd
      rw [htd] at hst ht
      have hQi : (C : Int) * (P : Int) = (Q : Int) := by rw [hQ]; push_cast; rfl
      have hfk : (f : Int) - (k : Int) = ((f - k : Nat) : Int) := by omega
      have HCH := Lib.hid hch; have HPW := Lib.hid hpw
      by_cases hpar : k % 2 = 0
      · rw [if_pos hpar] at hst
        have hmod : (k : Int) % 2 = 0 := by omega
        have HST := Lib.hid hst
        clear hV hb hst hch hpw htd hC hP hQ hpar
        go_wp2_with fail
        refine (HCH.out _).mono ?_
        rintro e w1 ⟨rfl, rfl⟩
        go_wp2_with fail
        refine (HPW.out _).mono ?_
        rintro e w1 ⟨rfl, rfl⟩
        go_wp2
        go_round
        case rel => exact ⟨k + 1, V + Q, by omega, by go_num, rfl, HST.out.symm⟩
        case measure => simp [intOf]; omega
      · rw [if_neg hpar] at hst
        have hmod : (k : Int) % 2 = 1 := by omega
        have HST := Lib.hid hst
        clear hV hb hst hch hpw htd hC hP hQ hpar
        go_wp2_with fail
        refine (HCH.out _).mono ?_
        rintro e w1 ⟨rfl, rfl⟩
        go_wp2_with fail
        refine (HPW.out _).mono ?_
        rintro e w1 ⟨rfl, rfl⟩
        go_wp2
        go_round
        case rel => exact ⟨k + 1, V - Q, by omega, by go_num, rfl, HST.out.symm⟩
        case measure => simp [intOf]; omega
    · have h1 : ¬ (k : Int) ≤ (f : Int) := by omega
      obtain rfl : k = f + 1 := by omega
      have hVe : V = (sj f d : Int) := by rw [hV]; exact HIE.out
      have HV := Lib.hid hVe
      clear hV hVe
      go_wp2
      go_ret2
      exact ⟨by rw [← HV.out]; rfl, Below.refl _ _⟩
theorem specEach_no (d f : Int) (w : World) (h : cupB d f = false) :
    Calls Try.prog 11 #[.int .i64 d, .int .i64 f] w fun e w' => e = .returned (.tuple #[.int .i64 0, .bool false]) ∧ Below w.heap.size w w' := by
  have HC := Lib.hid h
  clear h
  go_enter Try.func11, Try.ntmps11
  go_wp2_with fail
  refine (diAsked_any _ _ _).mono ?_
  rintro e w1 ⟨rfl, rfl⟩
  rw [HC.out]
  go_wp2
  go_ret2
  exact ⟨rfl, Below.refl _ _⟩
theorem countEachFace_both (d f : Int) : ∃ (x : Int) (ok : Bool),
    (∀ w, Calls Try.prog 11 #[.int .i64 d, .int .i64 f] w fun e w' => e = .returned (.tuple #[.int .i64 x, .bool ok]) ∧ Below w.heap.size w w') ∧
    (∀ w, Calls Try.prog 12 #[.int .i64 d, .int .i64 f] w fun e w' => e = .returned (.tuple #[.int .i64 x, .bool ok]) ∧ Below w.heap.size w w') := by
  cases hc : cupB d f
  · exact ⟨0, false, fun w => specEach_no d f w hc, fun w => implEach_no d f w hc⟩
  · obtain ⟨m, n, rfl, rfl, h1, h2, h3, h4⟩ := cupB_nat hc
    exact ⟨_, _, fun w => specEach_yes m n w h1 h2 h3 h4, fun w => implEach_yes m n w h1 h2 h3 h4⟩
end Go.Proofs.Ytblpfjjnlfjloac
