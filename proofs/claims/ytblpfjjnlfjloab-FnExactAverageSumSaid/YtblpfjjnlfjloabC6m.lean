/-
  Dice: PartAtLeast and AverageSum on both sides.
-/
import Derived.Test.YtblpfjjnlfjloabC6l
namespace Go.Proofs.Ytblpfjjnlfjloab
open Go.RowKit

set_option maxRecDepth 100000 in
set_option maxHeartbeats 1000000 in
theorem specPartAtLeast_yes (d f s : Nat) (w : World) (hd1 : 1 ≤ d) (hd : d ≤ 8) (hf1 : 1 ≤ f) (hf : f ≤ 12) (hs : s ≤ 200) :
    Calls Try.prog 23 #[.int .i64 d, .int .i64 f, .int .i64 s] w fun e w' => e = .returned (.tuple #[.int .i64 (lowA (geS (cv d f) s (d * f + 1)) (f ^ d)), .int .i64 (lowB (geS (cv d f) s (d * f + 1)) (f ^ d)), .bool true]) ∧ Below w.heap.size w w' := by
  have hc : cupB (d : Int) (f : Int) = true := cupB_iff.2 (by omega)
  have hb : inB (s : Int) 0 200 = true := inB_iff.2 (by omega)
  have HC := Lib.hid hc; have HB := Lib.hid hb
  clear hc hb
  have hall := kq_all d f d (d * f + 1) (Nat.le_refl _) (by omega)
  rw [sumD_same _ (cv d f) _ (fun i _ => kq_cv d f i)] at hall
  have hp := pow_12 hd hf hf1
  have hp1 := Nat.pow_pos (n := d) hf1
  have hn97 := kf97 hf hd
  obtain ⟨G, hG⟩ : ∃ G, G = geS (cv d f) s (d * f + 1) := ⟨_, rfl⟩
  have hGle := geS_le (cv d f) s (d * f + 1)
  rw [← hG, hall] at hGle
  rw [← hG]
  have HG := Lib.hid hG; have HALL := Lib.hid hall
  have hG9 : G ≤ 429981696 := by omega
  have hpow := fun w => diPower_any f d w hf hd
  obtain ⟨P, hP⟩ : ∃ P, P = f ^ d := ⟨_, rfl⟩
  rw [← hP] at hpow hp hp1 hGle HALL
  rw [← hP]
  have HPOW := Lib.hid hpow
  clear hG hall hpow hP hGle
  go_enter Try.func23, Try.ntmps23
  go_wp2_with fail
  refine (diAsked_any _ _ _).mono ?_
  rintro e w1 ⟨rfl, rfl⟩
  rw [HC.out]
  go_wp2_with fail
  refine (l1In_d _ _ _ _).mono ?_
  rintro e w1 ⟨rfl, rfl⟩
  rw [HB.out]
  go_wp2_with fail
  refine (diSums_any d f _ hd hf1 hf).mono ?_
  rintro e w1 ⟨g, rfl, hg, hT, hx⟩
  obtain ⟨n, hn⟩ : ∃ n, n = d * f + 1 := ⟨_, rfl⟩
  rw [← hn] at hT hn97 HG HALL ⊢
  clear hn
  go_wp2_with fail
  go_loop [9, 10, 11, 27] (fun v _ _ i => ∃ k V : Nat, k ≤ n ∧ i = .int .i64 k ∧ v = .int .i64 V ∧ V = geS (cv d f) s k) (fun _ _ _ i => n - (intOf i).toNat)
  case atStart => exact ⟨0, 0, Nat.zero_le _, rfl, rfl, rfl⟩
  case round =>
    obtain ⟨k, V, hk, rfl, rfl, hV⟩ := hrel
    by_cases hlt : k < n
    · have c1 : w1.cell? ⟨g, k, none⟩ = some (.int .i64 (cv d f k : Nat)) := RowI.cell hT hlt
      by_cases hsk : s ≤ k
      · have e1 := geS_succ (cv d f) hsk
        have e2 := geS_le (cv d f) s (k + 1)
        have e3 := sumD_mono (cv d f) (k + 1) (n - (k + 1))
        rw [show k + 1 + (n - (k + 1)) = n by omega, HALL.out] at e3
        rw [← hV] at e1
        obtain ⟨a, ha⟩ : ∃ a, a = cv d f k := ⟨_, rfl⟩
        rw [← ha] at c1 e1
        have hVb : V + a ≤ 429981696 := by omega
        have h1 : (s : Int) ≤ (k : Int) := by omega
        have E1 := Lib.hid e1
        clear e1 e2 e3 hV ha
        go_wp2
        go_round
        case rel => exact ⟨k + 1, V + a, by omega, by go_num, by go_num, E1.out.symm⟩
        case measure => simp [intOf]; omega
      · have e1 : geS (cv d f) s (k + 1) = V := by rw [hV]; unfold geS; show _ + (if s ≤ k then cv d f k else 0) = _; rw [if_neg hsk]; rfl
        have h1 : ¬ (s : Int) ≤ (k : Int) := by omega
        have E1 := Lib.hid e1
        clear e1 hV
        go_wp2
        go_round
        case rel => exact ⟨k + 1, V, by omega, by go_num, rfl, E1.out.symm⟩
        case measure => simp [intOf]; omega
    · obtain rfl : k = n := by omega
      have hVG : V = G := by rw [hV, HG.out]
      subst hVG
      clear hV
      go_wp2_with fail
      refine (HPOW.out _).mono ?_
      rintro e w2 ⟨rfl, rfl⟩
      go_wp2_with fail
      refine (chLow_any V P _ (by omega) (by omega) hp1).mono ?_
      rintro e w3 ⟨rfl, hx3⟩
      go_wp2
      exact bodyPost_ret (v := .tuple #[.int .i64 (lowA V P), .int .i64 (lowB V P), .bool true]) (by simp [results, Try.results23]) rfl ⟨rfl, hx.trans (hx3.mono hx.size)⟩
set_option maxRecDepth 100000 in
theorem specPartAtLeast_no (d f s : Int) (w : World) (h : cupB d f = false ∨ sumB s = false) :
    Calls Try.prog 23 #[.int .i64 d, .int .i64 f, .int .i64 s] w fun e w' => e = .returned (.tuple #[.int .i64 0, .int .i64 0, .bool false]) ∧ Below w.heap.size w w' := by
  cases hc : cupB d f
  · have HC := Lib.hid hc
    clear hc h
    go_enter Try.func23, Try.ntmps23
    go_wp2_with fail
    refine (diAsked_any _ _ _).mono ?_
    rintro e w1 ⟨rfl, rfl⟩
    rw [HC.out]
    go_wp2
    exact bodyPost_ret (v := .tuple #[.int .i64 0, .int .i64 0, .bool false]) (by simp [results, Try.results23]) rfl ⟨rfl, Below.refl _ _⟩
  · have hb : inB s 0 200 = false := by
      rw [← sumB_in]
      rcases h with h | h
      · rw [hc] at h; cases h
      · exact h
    have HC := Lib.hid hc; have HB := Lib.hid hb
    clear hc hb h
    go_enter Try.func23, Try.ntmps23
    go_wp2_with fail
    refine (diAsked_any _ _ _).mono ?_
    rintro e w1 ⟨rfl, rfl⟩
    rw [HC.out]
    go_wp2_with fail
    refine (l1In_d _ _ _ _).mono ?_
    rintro e w1 ⟨rfl, rfl⟩
    rw [HB.out]
    go_wp2
    exact bodyPost_ret (v := .tuple #[.int .i64 0, .int .i64 0, .bool false]) (by simp [results, Try.results23]) rfl ⟨rfl, Below.refl _ _⟩

theorem partAtLeast_both (d f s : Int) : ∃ (x y : Int) (ok : Bool),
    (∀ w, Calls Try.prog 23 #[.int .i64 d, .int .i64 f, .int .i64 s] w fun e w' => e = .returned (.tuple #[.int .i64 x, .int .i64 y, .bool ok]) ∧ Below w.heap.size w w') ∧
    (∀ w, Calls Try.prog 24 #[.int .i64 d, .int .i64 f, .int .i64 s] w fun e w' => e = .returned (.tuple #[.int .i64 x, .int .i64 y, .bool ok]) ∧ Below w.heap.size w w') := by
  by_cases h : cupB d f = true ∧ sumB s = true
  · obtain ⟨hc, hs⟩ := h
    obtain ⟨m, n, rfl, rfl, h1, h2, h3, h4⟩ := cupB_nat hc
    have h5 := sumB_iff.1 hs
    obtain ⟨q, rfl⟩ : ∃ q : Nat, s = q := ⟨s.toNat, by omega⟩
    have e : cv m n = kq m n m := by funext i; exact (kq_cv m n i).symm
    exact ⟨_, _, _, fun w => specPartAtLeast_yes m n q w h1 h2 h3 h4 (by omega), fun w => by rw [e]; exact implPartAtLeast_yes m n q w h1 h2 h3 h4 (by omega)⟩
  · have h' : cupB d f = false ∨ sumB s = false := by
      cases h1 : cupB d f
      · exact .inl rfl
      · cases h2 : sumB s
        · exact .inr rfl
        · exact absurd ⟨h1, h2⟩ h
    exact ⟨0, 0, false, fun w => specPartAtLeast_no d f s w h', fun w => implPartAtLeast_no d f s w h'⟩

set_option maxRecDepth 100000 in
theorem specAverageSum_yes (d f : Nat) (w : World) (hd1 : 1 ≤ d) (hd : d ≤ 8) (hf1 : 1 ≤ f) (hf : f ≤ 12) :
    Calls Try.prog 21 #[.int .i64 d, .int .i64 f] w fun e w' => e = .returned (.tuple #[.int .i64 (lowA (d * (f + 1)) 2), .int .i64 (lowB (d * (f + 1)) 2), .bool true]) ∧ Below w.heap.size w w' := by
  have hc : cupB (d : Int) (f : Int) = true := cupB_iff.2 (by omega)
  have HC := Lib.hid hc
  have hP9 : d * (f + 1) ≤ 8 * 13 := Nat.mul_le_mul hd (by omega)
  obtain ⟨P, hP⟩ : ∃ P, P = d * (f + 1) := ⟨_, rfl⟩
  have hPi : (d : Int) * ((f : Int) + 1) = (P : Int) := by rw [hP]; push_cast; rfl
  rw [← hP] at hP9
  rw [← hP]
  have hl := fun w => chLow_any P 2 w (by omega) (by omega) (by omega)
  have HL := Lib.hid hl
  clear hc hP hl
  go_enter Try.func21, Try.ntmps21
  go_wp2_with fail
  refine (diAsked_any _ _ _).mono ?_
  rintro e w1 ⟨rfl, rfl⟩
  rw [HC.out]
  go_wp2_with fail
  refine (HL.out _).mono ?_
  rintro e w3 ⟨rfl, hx3⟩
  go_wp2
  exact bodyPost_ret (v := .tuple #[.int .i64 (lowA P 2), .int .i64 (lowB P 2), .bool true]) (by simp [results, Try.results21]) rfl ⟨rfl, hx3⟩
theorem specAverageSum_no (d f : Int) (w : World) (h : cupB d f = false) :
    Calls Try.prog 21 #[.int .i64 d, .int .i64 f] w fun e w' => e = .returned (.tuple #[.int .i64 0, .int .i64 0, .bool false]) ∧ Below w.heap.size w w' := by
  have HC := Lib.hid h
  clear h
  go_enter Try.func21, Try.ntmps21
  go_wp2_with fail
  refine (diAsked_any _ _ _).mono ?_
  rintro e w1 ⟨rfl, rfl⟩
  rw [HC.out]
  go_wp2
  exact bodyPost_ret (v := .tuple #[.int .i64 0, .int .i64 0, .bool false]) (by simp [results, Try.results21]) rfl ⟨rfl, Below.refl _ _⟩
theorem averageSum_both (d f : Int) : ∃ (x y : Int) (ok : Bool),
    (∀ w, Calls Try.prog 21 #[.int .i64 d, .int .i64 f] w fun e w' => e = .returned (.tuple #[.int .i64 x, .int .i64 y, .bool ok]) ∧ Below w.heap.size w w') ∧
    (∀ w, Calls Try.prog 22 #[.int .i64 d, .int .i64 f] w fun e w' => e = .returned (.tuple #[.int .i64 x, .int .i64 y, .bool ok]) ∧ Below w.heap.size w w') := by
  cases hc : cupB d f
  · exact ⟨0, 0, false, fun w => specAverageSum_no d f w hc, fun w => implAverageSum_no d f w hc⟩
  · obtain ⟨m, n, rfl, rfl, h1, h2, h3, h4⟩ := cupB_nat hc
    have hs := low_same (a := totS (kq m n m) (m * n + 1)) (b := n ^ m) (x := m * (n + 1)) (y := 2) (Nat.pow_pos h3) (by omega) (by rw [← tot_sum, Nat.mul_comm]; rfl)
    have e1 : lowA (totS (kq m n m) (m * n + 1)) (n ^ m) = lowA (m * (n + 1)) 2 := by
      unfold lowA; congr 1; exact congrArg Int.ofNat hs.1
    have e2 : lowB (totS (kq m n m) (m * n + 1)) (n ^ m) = lowB (m * (n + 1)) 2 := by
      unfold lowB; congr 1; exact congrArg Int.ofNat hs.2
    exact ⟨_, _, _, fun w => specAverageSum_yes m n w h1 h2 h3 h4, fun w => by rw [← e1, ← e2]; exact implAverageSum_yes m n w h1 h2 h3 h4⟩
end Go.Proofs.Ytblpfjjnlfjloab
