/-
  Dice: WaysAgain and AverageAgain on both sides.
-/
import Derived.Test.YtblpfjjnlfjloabC6y
import Derived.Test.YtblpfjjnlfjloabC6i
namespace Go.Proofs.Ytblpfjjnlfjloab
open Go.RowKit

theorem pIn_over {base : Nat → Nat} {f g r s : Nat} (hb : base s = 0) (hs : (g + 1) * f < s) : ∀ m, m ≤ f → pIn base f g r m s = 0
  | 0, _ => hb
  | m + 1, hm => by
    have h := Nat.mul_le_mul_right f (show g - r + 1 ≤ g + 1 by omega)
    rw [Nat.add_mul, Nat.one_mul] at h
    unfold pIn
    rw [if_neg (by omega)]
    exact pIn_over hb hs m (by omega)
theorem pOut_over {f g s : Nat} (hs : (g + 1) * f < s) : ∀ r, pOut f g r s = 0
  | 0 => by unfold pOut; rw [if_neg (by omega)]
  | r + 1 => pIn_over (pOut_over hs r) hs (f - 1) (by omega)
theorem again_tot (f g : Nat) (hf1 : 1 ≤ f) (hf : f ≤ 12) (hg : g ≤ 6) : sumD (pOut f g (g + 1)) ((g + 1) * f + 1) = f ^ (g + 1) ∧ totS (pOut f g (g + 1)) ((g + 1) * f + 1) = totS (mOut f g (g + 1)) ((g + 1) * f + 1) := by
  have hn := ag_n (n := (g + 1) * f + 1) rfl hf hg
  have hs : ∀ i, i < (g + 1) * f + 1 → pOut f g (g + 1) i = mOut f g (g + 1) i := fun i hi => again_same f hf g hg i (by omega) hf1
  constructor
  · rw [← again_sum f hf g hg hf1]
    exact sumD_same _ _ _ hs
  · exact sumD_same _ _ _ fun i hi => by rw [hs i hi]
theorem again_pow {f g : Nat} (hf : f ≤ 12) (hg : g ≤ 6) (hf1 : 1 ≤ f) : 1 ≤ f ^ (g + 1) ∧ f ^ (g + 1) ≤ 429981696 := ⟨Nat.pow_pos hf1, pow_small12 hf (by omega)⟩

set_option maxRecDepth 100000 in
theorem implWaysAgain_yes (f g s : Nat) (w : World) (hf1 : 1 ≤ f) (hf : f ≤ 12) (hg : g ≤ 6) (hs : s ≤ 200) :
    Calls Try.prog 30 #[.int .i64 f, .int .i64 g, .int .i64 s] w fun e w' => e = .returned (.tuple #[.int .i64 (pOut f g (g + 1) s : Nat), .bool true]) ∧ Below w.heap.size w w' := by
  have hsb : sumB (s : Int) = true := sumB_iff.2 (by omega)
  have HSB := Lib.hid hsb; clear hsb
  go_enter Try.func30, Try.ntmps30
  go_wp2_with fail
  refine (sumsAgain_yes f g _ hf1 hf hg).mono ?_
  rintro e w1 ⟨gr, rfl, hgr, hr, hx1⟩
  go_wp2_with fail
  refine (isSum_any _ _).mono ?_
  rintro e w2 ⟨rfl, rfl⟩
  rw [HSB.out]
  go_wp2_with fail
  refine (tallyAt_any gr ((g + 1) * f + 1) s (pOut f g (g + 1)) _ hr (fun i hi => pOut_over (by omega) _)).mono ?_
  rintro e w3 ⟨rfl, rfl⟩
  go_wp2
  go_ret2
  exact ⟨rfl, hx1⟩
set_option maxRecDepth 100000 in
theorem implWaysAgain_no (f g s : Int) (w : World) (h : moreB f g = false ∨ sumB s = false) :
    Calls Try.prog 30 #[.int .i64 f, .int .i64 g, .int .i64 s] w fun e w' => e = .returned (.tuple #[.int .i64 0, .bool false]) ∧ Below w.heap.size w w' := by
  cases hk : moreB f g
  · go_enter Try.func30, Try.ntmps30
    go_wp2_with fail
    refine (sumsAgain_no f g _ hk).mono ?_
    rintro e w1 ⟨rfl, hx1⟩
    go_wp2
    go_ret2
    exact ⟨rfl, hx1⟩
  · have hs : sumB s = false := by
      rcases h with h | h
      · rw [hk] at h; cases h
      · exact h
    obtain ⟨m, n, rfl, rfl, h1, h2, h3⟩ := moreB_nat hk
    have HSB := Lib.hid hs
    clear hs h hk
    go_enter Try.func30, Try.ntmps30
    go_wp2_with fail
    refine (sumsAgain_yes m n _ h1 h2 h3).mono ?_
    rintro e w1 ⟨gr, rfl, hgr, hr, hx1⟩
    go_wp2_with fail
    refine (isSum_any _ _).mono ?_
    rintro e w2 ⟨rfl, rfl⟩
    rw [HSB.out]
    go_wp2
    go_ret2
    exact ⟨rfl, hx1⟩
set_option maxRecDepth 100000 in
theorem specWaysAgain_yes (f g s : Nat) (w : World) (hf1 : 1 ≤ f) (hf : f ≤ 12) (hg : g ≤ 6) (hs : s ≤ 200) :
    Calls Try.prog 29 #[.int .i64 f, .int .i64 g, .int .i64 s] w fun e w' => e = .returned (.tuple #[.int .i64 (pOut f g (g + 1) s : Nat), .bool true]) ∧ Below w.heap.size w w' := by
  have hc : moreB (f : Int) (g : Int) = true := moreB_iff.2 (by omega)
  have hb : inB (s : Int) 0 200 = true := inB_iff.2 (by omega)
  have HC := Lib.hid hc; have HB := Lib.hid hb
  clear hc hb
  go_enter Try.func29, Try.ntmps29
  go_wp2_with fail
  refine (diMore_any _ _ _).mono ?_
  rintro e w1 ⟨rfl, rfl⟩
  rw [HC.out]
  go_wp2_with fail
  refine (l1In_d _ _ _ _).mono ?_
  rintro e w1 ⟨rfl, rfl⟩
  rw [HB.out]
  go_wp2_with fail
  refine (diAgain_any f g _ hf1 hf hg).mono ?_
  rintro e w1 ⟨gr, rfl, hgr, hT, hx⟩
  have hn85 := ag_n (n := (g + 1) * f + 1) rfl hf hg
  obtain ⟨n, hn⟩ : ∃ n, n = (g + 1) * f + 1 := ⟨_, rfl⟩
  rw [← hn] at hT hn85 ⊢
  by_cases hlt : s < n
  · have c1 : w1.cell? ⟨gr, s, none⟩ = some (.int .i64 (mOut f g (g + 1) s : Nat)) := RowI.cell hT hlt
    rw [← again_same f hf g hg s (by omega) hf1] at c1
    have h1 : (s : Int) < (n : Int) := by omega
    clear hn
    go_wp2
    go_ret2
    exact ⟨rfl, hx⟩
  · have h1 : (n : Int) ≤ (s : Int) := by omega
    have h0 : pOut f g (g + 1) s = 0 := pOut_over (by omega) _
    have H0 := Lib.hid h0
    clear hn h0
    go_wp2
    go_ret2
    exact ⟨by rw [H0.out]; rfl, hx⟩
set_option maxRecDepth 100000 in
theorem specWaysAgain_no (f g s : Int) (w : World) (h : moreB f g = false ∨ sumB s = false) :
    Calls Try.prog 29 #[.int .i64 f, .int .i64 g, .int .i64 s] w fun e w' => e = .returned (.tuple #[.int .i64 0, .bool false]) ∧ Below w.heap.size w w' := by
  cases hc : moreB f g
  · have HC := Lib.hid hc
    clear hc h
    go_enter Try.func29, Try.ntmps29
    go_wp2_with fail
    refine (diMore_any _ _ _).mono ?_
    rintro e w1 ⟨rfl, rfl⟩
    rw [HC.out]
    go_wp2
    go_ret2
    exact ⟨rfl, Below.refl _ _⟩
  · have hb : inB s 0 200 = false := by
      rw [← sumB_in]
      rcases h with h | h
      · rw [hc] at h; cases h
      · exact h
    have HC := Lib.hid hc; have HB := Lib.hid hb
    clear hc hb h
    go_enter Try.func29, Try.ntmps29
    go_wp2_with fail
    refine (diMore_any _ _ _).mono ?_
    rintro e w1 ⟨rfl, rfl⟩
    rw [HC.out]
    go_wp2_with fail
    refine (l1In_d _ _ _ _).mono ?_
    rintro e w1 ⟨rfl, rfl⟩
    rw [HB.out]
    go_wp2
    go_ret2
    exact ⟨rfl, Below.refl _ _⟩
theorem waysAgain_both (f g s : Int) : ∃ (x : Int) (ok : Bool),
    (∀ w, Calls Try.prog 29 #[.int .i64 f, .int .i64 g, .int .i64 s] w fun e w' => e = .returned (.tuple #[.int .i64 x, .bool ok]) ∧ Below w.heap.size w w') ∧
    (∀ w, Calls Try.prog 30 #[.int .i64 f, .int .i64 g, .int .i64 s] w fun e w' => e = .returned (.tuple #[.int .i64 x, .bool ok]) ∧ Below w.heap.size w w') := by
  by_cases h : moreB f g = true ∧ sumB s = true
  · obtain ⟨hc, hs⟩ := h
    obtain ⟨m, n, rfl, rfl, h1, h2, h3⟩ := moreB_nat hc
    have h5 := sumB_iff.1 hs
    obtain ⟨q, rfl⟩ : ∃ q : Nat, s = q := ⟨s.toNat, by omega⟩
    exact ⟨_, _, fun w => specWaysAgain_yes m n q w h1 h2 h3 (by omega), fun w => implWaysAgain_yes m n q w h1 h2 h3 (by omega)⟩
  · have h' : moreB f g = false ∨ sumB s = false := by
      cases h1 : moreB f g
      · exact .inl rfl
      · cases h2 : sumB s
        · exact .inr rfl
        · exact absurd ⟨h1, h2⟩ h
    exact ⟨0, false, fun w => specWaysAgain_no f g s w h', fun w => implWaysAgain_no f g s w h'⟩

set_option maxRecDepth 100000 in
theorem implAverageAgain_yes (f g : Nat) (w : World) (hf1 : 1 ≤ f) (hf : f ≤ 12) (hg : g ≤ 6) :
    Calls Try.prog 32 #[.int .i64 f, .int .i64 g] w fun e w' => e = .returned (.tuple #[.int .i64 (lowA (totS (mOut f g (g + 1)) ((g + 1) * f + 1)) (f ^ (g + 1))), .int .i64 (lowB (totS (mOut f g (g + 1)) ((g + 1) * f + 1)) (f ^ (g + 1))), .bool true]) ∧ Below w.heap.size w w' := by
  obtain ⟨he, ht⟩ := again_tot f g hf1 hf hg
  have hb := again_pow hf hg hf1
  have hn85 := ag_n (n := (g + 1) * f + 1) rfl hf hg
  have hav := fun gr w h => average_any gr ((g + 1) * f + 1) (pOut f g (g + 1)) w h (by omega) (by rw [he]; omega) (by rw [he]; exact hb.1)
  rw [he, ht] at hav
  have HAV := Lib.hid hav
  clear hav he hb ht hn85
  go_enter Try.func32, Try.ntmps32
  go_wp2_with fail
  refine (sumsAgain_yes f g _ hf1 hf hg).mono ?_
  rintro e w1 ⟨gr, rfl, hgr, hr, hx1⟩
  go_wp2_with fail
  refine (HAV.out gr _ hr).mono ?_
  rintro e w3 ⟨rfl, hx3⟩
  go_wp2
  exact bodyPost_ret (v := .tuple #[.int .i64 (lowA (totS (mOut f g (g + 1)) ((g + 1) * f + 1)) (f ^ (g + 1))), .int .i64 (lowB (totS (mOut f g (g + 1)) ((g + 1) * f + 1)) (f ^ (g + 1))), .bool true]) (by simp [results, Try.results32]) rfl ⟨rfl, hx1.trans (hx3.mono hx1.size)⟩
theorem implAverageAgain_no (f g : Int) (w : World) (h : moreB f g = false) :
    Calls Try.prog 32 #[.int .i64 f, .int .i64 g] w fun e w' => e = .returned (.tuple #[.int .i64 0, .int .i64 0, .bool false]) ∧ Below w.heap.size w w' := by
  go_enter Try.func32, Try.ntmps32
  go_wp2_with fail
  refine (sumsAgain_no f g _ h).mono ?_
  rintro e w1 ⟨rfl, hx1⟩
  go_wp2
  exact bodyPost_ret (v := .tuple #[.int .i64 0, .int .i64 0, .bool false]) (by simp [results, Try.results32]) rfl ⟨rfl, hx1⟩
set_option maxRecDepth 100000 in
set_option maxHeartbeats 1000000 in
theorem specAverageAgain_yes (f g : Nat) (w : World) (hf1 : 1 ≤ f) (hf : f ≤ 12) (hg : g ≤ 6) :
    Calls Try.prog 31 #[.int .i64 f, .int .i64 g] w fun e w' => e = .returned (.tuple #[.int .i64 (lowA (totS (mOut f g (g + 1)) ((g + 1) * f + 1)) (f ^ (g + 1))), .int .i64 (lowB (totS (mOut f g (g + 1)) ((g + 1) * f + 1)) (f ^ (g + 1))), .bool true]) ∧ Below w.heap.size w w' := by
  have hc : moreB (f : Int) (g : Int) = true := moreB_iff.2 (by omega)
  have HC := Lib.hid hc
  obtain ⟨hp1, hp⟩ := again_pow hf hg hf1
  have hn85 := ag_n (n := (g + 1) * f + 1) rfl hf hg
  have hsum := again_sum f hf g hg hf1
  have htl := totS_le (mOut f g (g + 1)) ((g + 1) * f + 1) (by omega)
  rw [hsum] at htl
  have hpow : ∀ w, Calls Try.prog 39 #[.int .i64 f, .int .i64 ((g : Int) + 1)] w fun e w' => e = .returned (.int .i64 (f ^ (g + 1) : Nat)) ∧ w = w' := fun w => diPower_any f (g + 1) w hf (by omega)
  obtain ⟨P, hP⟩ : ∃ P, P = f ^ (g + 1) := ⟨_, rfl⟩
  rw [← hP] at hpow hp hp1 htl
  rw [← hP]
  have HPOW := Lib.hid hpow
  obtain ⟨T, hT⟩ : ∃ T, T = totS (mOut f g (g + 1)) ((g + 1) * f + 1) := ⟨_, rfl⟩
  rw [← hT] at htl
  rw [← hT]
  have hT9 : T ≤ 97000000000 := by omega
  have hl := fun w => chLow_any T P w (by omega) (by omega) hp1
  obtain ⟨n, hn⟩ : ∃ n, n = (g + 1) * f + 1 := ⟨_, rfl⟩
  rw [← hn] at hT hn85
  have HT := Lib.hid hT; have HL := Lib.hid hl; have HN := Lib.hid hn
  clear hc hpow hP hT hsum htl hl hn
  go_enter Try.func31, Try.ntmps31
  go_wp2_with fail
  refine (diMore_any _ _ _).mono ?_
  rintro e w1 ⟨rfl, rfl⟩
  rw [HC.out]
  go_wp2_with fail
  refine (diAgain_any f g _ hf1 hf hg).mono ?_
  rintro e w1 ⟨gr, rfl, hgr, hTa, hx⟩
  rw [← HN.out] at hTa ⊢
  go_wp2_with fail
  go_loop [7, 8, 9, 20] (fun v _ _ i => ∃ j V : Nat, j ≤ n ∧ i = .int .i64 j ∧ v = .int .i64 V ∧ V = totS (mOut f g (g + 1)) j) (fun _ _ _ i => n - (intOf i).toNat)
  case atStart => exact ⟨0, 0, Nat.zero_le _, rfl, rfl, rfl⟩
  case round =>
    obtain ⟨j, V, hj, rfl, rfl, hV⟩ := hrel
    by_cases hlt : j < n
    · have c1 : w1.cell? ⟨gr, j, none⟩ = some (.int .i64 (mOut f g (g + 1) j : Nat)) := RowI.cell hTa hlt
      have e1 : totS (mOut f g (g + 1)) (j + 1) = totS (mOut f g (g + 1)) j + j * mOut f g (g + 1) j := rfl
      have e3 := sumD_mono (fun i => i * mOut f g (g + 1) i) (j + 1) (n - (j + 1))
      rw [show j + 1 + (n - (j + 1)) = n by omega] at e3
      have e4 : totS (mOut f g (g + 1)) (j + 1) ≤ T := by rw [HT.out]; exact e3
      rw [← hV] at e1
      obtain ⟨a, ha⟩ : ∃ a, a = mOut f g (g + 1) j := ⟨_, rfl⟩
      rw [← ha] at c1 e1
      obtain ⟨Q, hQ⟩ : ∃ Q, Q = j * a := ⟨_, rfl⟩
      rw [← hQ] at e1
      have hQi : (j : Int) * (a : Int) = (Q : Int) := by rw [hQ]; push_cast; rfl
      have hVb : V + Q ≤ 97000000000 := by omega
      have E1 := Lib.hid e1
      clear e1 e3 e4 hV ha hQ
      go_wp2
      go_round
      case rel => exact ⟨j + 1, V + Q, by omega, by go_num, by go_num, E1.out.symm⟩
      case measure => simp [intOf]; omega
    · obtain rfl : j = n := by omega
      have hVT : V = T := by rw [hV, HT.out]
      subst hVT
      clear hV
      go_wp2_with fail
      refine (HPOW.out _).mono ?_
      rintro e w2 ⟨rfl, rfl⟩
      go_wp2_with fail
      refine (HL.out _).mono ?_
      rintro e w3 ⟨rfl, hx3⟩
      go_wp2
      exact bodyPost_ret (v := .tuple #[.int .i64 (lowA V P), .int .i64 (lowB V P), .bool true]) (by simp [results, Try.results31]) rfl ⟨rfl, hx.trans (hx3.mono hx.size)⟩
theorem specAverageAgain_no (f g : Int) (w : World) (h : moreB f g = false) :
    Calls Try.prog 31 #[.int .i64 f, .int .i64 g] w fun e w' => e = .returned (.tuple #[.int .i64 0, .int .i64 0, .bool false]) ∧ Below w.heap.size w w' := by
  have HC := Lib.hid h
  clear h
  go_enter Try.func31, Try.ntmps31
  go_wp2_with fail
  refine (diMore_any _ _ _).mono ?_
  rintro e w1 ⟨rfl, rfl⟩
  rw [HC.out]
  go_wp2
  exact bodyPost_ret (v := .tuple #[.int .i64 0, .int .i64 0, .bool false]) (by simp [results, Try.results31]) rfl ⟨rfl, Below.refl _ _⟩
theorem averageAgain_both (f g : Int) : ∃ (x y : Int) (ok : Bool),
    (∀ w, Calls Try.prog 31 #[.int .i64 f, .int .i64 g] w fun e w' => e = .returned (.tuple #[.int .i64 x, .int .i64 y, .bool ok]) ∧ Below w.heap.size w w') ∧
    (∀ w, Calls Try.prog 32 #[.int .i64 f, .int .i64 g] w fun e w' => e = .returned (.tuple #[.int .i64 x, .int .i64 y, .bool ok]) ∧ Below w.heap.size w w') := by
  cases hc : moreB f g
  · exact ⟨0, 0, false, fun w => specAverageAgain_no f g w hc, fun w => implAverageAgain_no f g w hc⟩
  · obtain ⟨m, n, rfl, rfl, h1, h2, h3⟩ := moreB_nat hc
    exact ⟨_, _, _, fun w => specAverageAgain_yes m n w h1 h2 h3, fun w => implAverageAgain_yes m n w h1 h2 h3⟩
end Go.Proofs.Ytblpfjjnlfjloab
