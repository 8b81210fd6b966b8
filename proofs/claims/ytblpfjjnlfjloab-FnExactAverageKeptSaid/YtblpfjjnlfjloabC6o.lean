/-
  Dice: WaysKept and AverageKept on both sides.
-/
import Derived.Test.YtblpfjjnlfjloabC6i
import Derived.Test.YtblpfjjnlfjloabC6n
namespace Go.Proofs.Ytblpfjjnlfjloab
open Go.RowKit

set_option maxRecDepth 100000 in
theorem specWaysKept_yes (d f k s : Nat) (w : World) (hd : d ≤ 8) (hf1 : 1 ≤ f) (hf : f ≤ 12) (hk1 : 1 ≤ k) (hk : k ≤ d) (hs : s ≤ 200) :
    Calls Try.prog 25 #[.int .i64 d, .int .i64 f, .int .i64 k, .int .i64 s] w fun e w' => e = .returned (.tuple #[.int .i64 (kq d f k s : Nat), .bool true]) ∧ Below w.heap.size w w' := by
  have hc : keptB (d : Int) (f : Int) (k : Int) = true := keptB_iff.2 (by omega)
  have hb : inB (s : Int) 0 200 = true := inB_iff.2 (by omega)
  have HC := Lib.hid hc; have HB := Lib.hid hb
  clear hc hb
  go_enter Try.func25, Try.ntmps25
  go_wp2_with fail
  refine (diKeep_any _ _ _ _).mono ?_
  rintro e w1 ⟨rfl, rfl⟩
  rw [HC.out]
  go_wp2_with fail
  refine (l1In_d _ _ _ _).mono ?_
  rintro e w1 ⟨rfl, rfl⟩
  rw [HB.out]
  go_wp2_with fail
  refine (diKept_any f d k _ hk hd hf).mono ?_
  rintro e w1 ⟨v, n, rfl, hown, hn, hz, hx⟩
  obtain ⟨A, c, rfl⟩ := own_sliceN hown
  by_cases hlt : s < n
  · obtain ⟨g, c', e, _, _, hr⟩ := own_num hown (by omega)
    injection e with e _ _
    subst e
    have c1 : w1.cell? ⟨g, s, none⟩ = some (.int .i64 (kq d f k s : Nat)) := RowI.cell hr hlt
    have h1 : (s : Int) < (n : Int) := by omega
    have hn9 := kf97 hf (show k ≤ 8 by omega)
    have hn97 : n ≤ 97 := by omega
    clear hz hn hn9
    go_wp2
    go_ret2
    exact ⟨rfl, hx⟩
  · have h1 : (n : Int) ≤ (s : Int) := by omega
    have h0 := hz s (by omega)
    have H0 := Lib.hid h0
    clear hz h0 hn
    go_wp2
    go_ret2
    exact ⟨by rw [H0.out]; rfl, hx⟩
set_option maxRecDepth 100000 in
theorem specWaysKept_no (d f k s : Int) (w : World) (h : keptB d f k = false ∨ sumB s = false) :
    Calls Try.prog 25 #[.int .i64 d, .int .i64 f, .int .i64 k, .int .i64 s] w fun e w' => e = .returned (.tuple #[.int .i64 0, .bool false]) ∧ Below w.heap.size w w' := by
  cases hc : keptB d f k
  · have HC := Lib.hid hc
    clear hc h
    go_enter Try.func25, Try.ntmps25
    go_wp2_with fail
    refine (diKeep_any _ _ _ _).mono ?_
    rintro e w1 ⟨rfl, rfl⟩
    rw [HC.out]
    go_wp2
    go_ret2
    exact ⟨rfl, Below.refl _ _⟩
  · have hb : inB s 0 200 = false := by
      rw [← sumB_in]
      rcases h with h | h
      · rw [hc] at h; cases h
      · exact h
    have HC := Lib.hid hc; have HB := Lib.hid hb
    clear hc hb h
    go_enter Try.func25, Try.ntmps25
    go_wp2_with fail
    refine (diKeep_any _ _ _ _).mono ?_
    rintro e w1 ⟨rfl, rfl⟩
    rw [HC.out]
    go_wp2_with fail
    refine (l1In_d _ _ _ _).mono ?_
    rintro e w1 ⟨rfl, rfl⟩
    rw [HB.out]
    go_wp2
    go_ret2
    exact ⟨rfl, Below.refl _ _⟩
theorem waysKept_both (d f k s : Int) : ∃ (x : Int) (ok : Bool),
    (∀ w, Calls Try.prog 25 #[.int .i64 d, .int .i64 f, .int .i64 k, .int .i64 s] w fun e w' => e = .returned (.tuple #[.int .i64 x, .bool ok]) ∧ Below w.heap.size w w') ∧
    (∀ w, Calls Try.prog 26 #[.int .i64 d, .int .i64 f, .int .i64 k, .int .i64 s] w fun e w' => e = .returned (.tuple #[.int .i64 x, .bool ok]) ∧ Below w.heap.size w w') := by
  by_cases h : keptB d f k = true ∧ sumB s = true
  · obtain ⟨hc, hs⟩ := h
    obtain ⟨m, n, q, rfl, rfl, rfl, h1, h2, h3, h4, h5, h6⟩ := keptB_nat hc
    have h7 := sumB_iff.1 hs
    obtain ⟨r, rfl⟩ : ∃ r : Nat, s = r := ⟨s.toNat, by omega⟩
    exact ⟨_, _, fun w => specWaysKept_yes m n q r w h2 h3 h4 h5 h6 (by omega), fun w => implWaysKept_yes m n q r w h2 h3 h4 h5 h6 (by omega)⟩
  · have h' : keptB d f k = false ∨ sumB s = false := by
      cases h1 : keptB d f k
      · exact .inl rfl
      · cases h2 : sumB s
        · exact .inr rfl
        · exact absurd ⟨h1, h2⟩ h
    exact ⟨0, false, fun w => specWaysKept_no d f k s w h', fun w => implWaysKept_no d f k s w h'⟩

theorem totS_far (K : Nat → Nat) (n m : Nat) (h : ∀ i, n ≤ i → K i = 0) (hm : n ≤ m) : totS K m = totS K n := by
  obtain ⟨j, rfl⟩ : ∃ j, m = n + j := ⟨m - n, by omega⟩
  exact sumD_far (fun i => i * K i) n (fun i hi => by simp [h i hi]) j
set_option maxRecDepth 100000 in
set_option maxHeartbeats 1000000 in
theorem specAverageKept_yes (d f k : Nat) (w : World) (hd : d ≤ 8) (hf1 : 1 ≤ f) (hf : f ≤ 12) (hk1 : 1 ≤ k) (hk : k ≤ d) :
    Calls Try.prog 27 #[.int .i64 d, .int .i64 f, .int .i64 k] w fun e w' => e = .returned (.tuple #[.int .i64 (lowA (totS (kq d f k) (k * f + 1)) (f ^ d)), .int .i64 (lowB (totS (kq d f k) (k * f + 1)) (f ^ d)), .bool true]) ∧ Below w.heap.size w w' := by
  have hc : keptB (d : Int) (f : Int) (k : Int) = true := keptB_iff.2 (by omega)
  have HC := Lib.hid hc
  have hsum := kq_sum_le hd hf1 hf hk
  have hn97 := kf97 hf (show k ≤ 8 by omega)
  have hp := pow_12 hd hf hf1
  have hp1 := Nat.pow_pos (n := d) hf1
  have hpow := fun w => diPower_any f d w hf hd
  obtain ⟨P, hP⟩ : ∃ P, P = f ^ d := ⟨_, rfl⟩
  rw [← hP] at hpow hp hp1
  rw [← hP]
  have HPOW := Lib.hid hpow
  have htl := totS_le (kq d f k) (k * f + 1) hn97
  obtain ⟨T, hT⟩ : ∃ T, T = totS (kq d f k) (k * f + 1) := ⟨_, rfl⟩
  rw [← hT] at htl
  rw [← hT]
  have HT := Lib.hid hT
  have hT9 : T ≤ 97000000000 := by omega
  have hl := fun w => chLow_any T P w (by omega) (by omega) hp1
  have HL := Lib.hid hl
  clear hc hpow hP hT hsum htl hl
  go_enter Try.func27, Try.ntmps27
  go_wp2_with fail
  refine (diKeep_any _ _ _ _).mono ?_
  rintro e w1 ⟨rfl, rfl⟩
  rw [HC.out]
  go_wp2_with fail
  refine (diKept_any f d k _ hk hd hf).mono ?_
  rintro e w1 ⟨v, n, rfl, hown, hn, hz, hx⟩
  obtain ⟨A, c, rfl⟩ := own_sliceN hown
  have hfar := totS_far (kq d f k) n (k * f + 1) hz hn
  rw [← HT.out] at hfar
  have HF := Lib.hid hfar
  have hn9 : n ≤ 97 := by omega
  clear hfar hz hn hn97
  go_wp2_with fail
  go_loop [9, 10, 11, 24] (fun v _ _ i => ∃ j V : Nat, j ≤ n ∧ i = .int .i64 j ∧ v = .int .i64 V ∧ V = totS (kq d f k) j) (fun _ _ _ i => n - (intOf i).toNat)
  case atStart => exact ⟨0, 0, Nat.zero_le _, rfl, rfl, rfl⟩
  case round =>
    obtain ⟨j, V, hj, rfl, rfl, hV⟩ := hrel
    by_cases hlt : j < n
    · obtain ⟨g, c', e, _, _, hr⟩ := own_num hown (by omega)
      injection e with e _ _
      subst e
      have c1 : w1.cell? ⟨g, j, none⟩ = some (.int .i64 (kq d f k j : Nat)) := RowI.cell hr hlt
      have e1 : totS (kq d f k) (j + 1) = totS (kq d f k) j + j * kq d f k j := rfl
      have e3 := sumD_mono (fun i => i * kq d f k i) (j + 1) (n - (j + 1))
      rw [show j + 1 + (n - (j + 1)) = n by omega] at e3
      have e4 : totS (kq d f k) (j + 1) ≤ T := by rw [HF.out]; exact e3
      rw [← hV] at e1
      obtain ⟨a, ha⟩ : ∃ a, a = kq d f k j := ⟨_, rfl⟩
      rw [← ha] at c1 e1
      obtain ⟨Q, hQ⟩ : ∃ Q, Q = j * a := ⟨_, rfl⟩
      rw [← hQ] at e1
      have hQi : (j : Int) * (a : Int) = (Q : Int) := by rw [hQ]; push_cast; rfl
      have hVb : V + Q ≤ 97000000000 := by omega
      have E1 := Lib.hid e1
      clear e1 e3 e4 hV ha hQ
      go_wp2
      go_round
      case rel => exact ⟨j + 1, V + Q, by omega, by go_num, by go_num, E1.out.symm⟩
      case measure => simp [intOf]; omega
    · obtain rfl : j = n := by omega
      have hVT : V = T := by rw [hV, HF.out]
      subst hVT
      clear hV
      go_wp2_with fail
      refine (HPOW.out _).mono ?_
      rintro e w2 ⟨rfl, rfl⟩
      go_wp2_with fail
      refine (HL.out _).mono ?_
      rintro e w3 ⟨rfl, hx3⟩
      go_wp2
      exact bodyPost_ret (v := .tuple #[.int .i64 (lowA V P), .int .i64 (lowB V P), .bool true]) (by simp [results, Try.results27]) rfl ⟨rfl, hx.trans (hx3.mono hx.size)⟩
theorem specAverageKept_no (d f k : Int) (w : World) (h : keptB d f k = false) :
    Calls Try.prog 27 #[.int .i64 d, .int .i64 f, .int .i64 k] w fun e w' => e = .returned (.tuple #[.int .i64 0, .int .i64 0, .bool false]) ∧ Below w.heap.size w w' := by
  have HC := Lib.hid h
  clear h
  go_enter Try.func27, Try.ntmps27
  go_wp2_with fail
  refine (diKeep_any _ _ _ _).mono ?_
  rintro e w1 ⟨rfl, rfl⟩
  rw [HC.out]
  go_wp2
  exact bodyPost_ret (v := .tuple #[.int .i64 0, .int .i64 0, .bool false]) (by simp [results, Try.results27]) rfl ⟨rfl, Below.refl _ _⟩
theorem averageKept_both (d f k : Int) : ∃ (x y : Int) (ok : Bool),
    (∀ w, Calls Try.prog 27 #[.int .i64 d, .int .i64 f, .int .i64 k] w fun e w' => e = .returned (.tuple #[.int .i64 x, .int .i64 y, .bool ok]) ∧ Below w.heap.size w w') ∧
    (∀ w, Calls Try.prog 28 #[.int .i64 d, .int .i64 f, .int .i64 k] w fun e w' => e = .returned (.tuple #[.int .i64 x, .int .i64 y, .bool ok]) ∧ Below w.heap.size w w') := by
  cases hc : keptB d f k
  · exact ⟨0, 0, false, fun w => specAverageKept_no d f k w hc, fun w => implAverageKept_no d f k w hc⟩
  · obtain ⟨m, n, q, rfl, rfl, rfl, h1, h2, h3, h4, h5, h6⟩ := keptB_nat hc
    exact ⟨_, _, _, fun w => specAverageKept_yes m n q w h2 h3 h4 h5 h6, fun w => implAverageKept_yes m n q w h2 h3 h4 h5 h6⟩
end Go.Proofs.Ytblpfjjnlfjloab
