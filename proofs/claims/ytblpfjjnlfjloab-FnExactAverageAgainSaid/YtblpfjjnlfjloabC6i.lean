/-
  Dice: WaysKept, WaysOfSum, AverageKept, AverageSum, PartAtLeast, the program's.
-/
import Derived.Test.YtblpfjjnlfjloabC6h
namespace Go.Proofs.Ytblpfjjnlfjloab
open Go.RowKit

theorem kq_sum_le {d f k : Nat} (hd : d ≤ 8) (hf1 : 1 ≤ f) (hf : f ≤ 12) (hk : k ≤ d) : 1 ≤ sumD (kq d f k) (k * f + 1) ∧ sumD (kq d f k) (k * f + 1) ≤ 1000000000 := by
  rw [kq_all d f k _ hk (by omega)]
  have := pow_12 hd hf hf1
  have := Nat.pow_pos (n := d) hf1
  omega

set_option maxRecDepth 100000 in
theorem implWaysKept_yes (d f k s : Nat) (w : World) (hd : d ≤ 8) (hf1 : 1 ≤ f) (hf : f ≤ 12) (hk1 : 1 ≤ k) (hk : k ≤ d) (hs : s ≤ 200) :
    Calls Try.prog 26 #[.int .i64 d, .int .i64 f, .int .i64 k, .int .i64 s] w fun e w' => e = .returned (.tuple #[.int .i64 (kq d f k s : Nat), .bool true]) ∧ Below w.heap.size w w' := by
  have hsb : sumB (s : Int) = true := sumB_iff.2 (by omega)
  have HSB := Lib.hid hsb; clear hsb
  go_enter Try.func26, Try.ntmps26
  go_wp2_with fail
  refine (sumsKept_yes d f k _ hd hf1 hf hk1 hk).mono ?_
  rintro e w1 ⟨gr, rfl, hgr, hr, hx1⟩
  go_wp2_with fail
  refine (isSum_any _ _).mono ?_
  rintro e w2 ⟨rfl, rfl⟩
  rw [HSB.out]
  go_wp2_with fail
  refine (tallyAt_any gr (k * f + 1) s (kq d f k) _ hr (fun i hi => kq_over d f k i hk (by omega))).mono ?_
  rintro e w3 ⟨rfl, rfl⟩
  go_wp2
  go_ret2
  exact ⟨rfl, hx1⟩

set_option maxRecDepth 100000 in
theorem implWaysKept_no (d f k s : Int) (w : World) (h : keptB d f k = false ∨ sumB s = false) :
    Calls Try.prog 26 #[.int .i64 d, .int .i64 f, .int .i64 k, .int .i64 s] w fun e w' => e = .returned (.tuple #[.int .i64 0, .bool false]) ∧ Below w.heap.size w w' := by
  cases hk : keptB d f k
  · go_enter Try.func26, Try.ntmps26
    go_wp2_with fail
    refine (sumsKept_no d f k _ hk).mono ?_
    rintro e w1 ⟨rfl, hx1⟩
    go_wp2
    go_ret2
    exact ⟨rfl, hx1⟩
  · have hs : sumB s = false := by
      rcases h with h | h
      · rw [hk] at h; cases h
      · exact h
    obtain ⟨m, n, q, rfl, rfl, rfl, h1, h2, h3, h4, h5, h6⟩ := keptB_nat hk
    have HSB := Lib.hid hs
    clear hs h hk
    go_enter Try.func26, Try.ntmps26
    go_wp2_with fail
    refine (sumsKept_yes m n q _ h2 h3 h4 h5 h6).mono ?_
    rintro e w1 ⟨gr, rfl, hgr, hr, hx1⟩
    go_wp2_with fail
    refine (isSum_any _ _).mono ?_
    rintro e w2 ⟨rfl, rfl⟩
    rw [HSB.out]
    go_wp2
    go_ret2
    exact ⟨rfl, hx1⟩

theorem implWaysOfSum_yes (d f s : Nat) (w : World) (hd1 : 1 ≤ d) (hd : d ≤ 8) (hf1 : 1 ≤ f) (hf : f ≤ 12) (hs : s ≤ 200) :
    Calls Try.prog 13 #[.int .i64 d, .int .i64 f, .int .i64 s] w fun e w' => e = .returned (.tuple #[.int .i64 (kq d f d s : Nat), .bool true]) ∧ Below w.heap.size w w' := by
  go_enter Try.func13, Try.ntmps13
  go_wp2_with fail
  refine (implWaysKept_yes d f d s _ hd hf1 hf hd1 (Nat.le_refl _) hs).mono ?_
  rintro e w1 ⟨rfl, hx1⟩
  go_wp2
  go_ret2
  exact ⟨rfl, hx1⟩
theorem implWaysOfSum_no (d f s : Int) (w : World) (h : cupB d f = false ∨ sumB s = false) :
    Calls Try.prog 13 #[.int .i64 d, .int .i64 f, .int .i64 s] w fun e w' => e = .returned (.tuple #[.int .i64 0, .bool false]) ∧ Below w.heap.size w w' := by
  go_enter Try.func13, Try.ntmps13
  go_wp2_with fail
  refine (implWaysKept_no d f d s _ (by rw [keptB_self]; exact h)).mono ?_
  rintro e w1 ⟨rfl, hx1⟩
  go_wp2
  go_ret2
  exact ⟨rfl, hx1⟩

set_option maxRecDepth 100000 in
theorem implAverageKept_yes (d f k : Nat) (w : World) (hd : d ≤ 8) (hf1 : 1 ≤ f) (hf : f ≤ 12) (hk1 : 1 ≤ k) (hk : k ≤ d) :
    Calls Try.prog 28 #[.int .i64 d, .int .i64 f, .int .i64 k] w fun e w' => e = .returned (.tuple #[.int .i64 (lowA (totS (kq d f k) (k * f + 1)) (f ^ d)), .int .i64 (lowB (totS (kq d f k) (k * f + 1)) (f ^ d)), .bool true]) ∧ Below w.heap.size w w' := by
  have hb := kq_sum_le hd hf1 hf hk
  have he := kq_all d f k (k * f + 1) hk (by omega)
  have hav := fun gr w h => average_any gr (k * f + 1) (kq d f k) w h (kf97 hf (by omega)) hb.2 hb.1
  rw [he] at hav
  have HAV := Lib.hid hav
  clear hav he hb
  go_enter Try.func28, Try.ntmps28
  go_wp2_with fail
  refine (sumsKept_yes d f k _ hd hf1 hf hk1 hk).mono ?_
  rintro e w1 ⟨gr, rfl, hgr, hr, hx1⟩
  go_wp2_with fail
  refine (HAV.out gr _ hr).mono ?_
  rintro e w3 ⟨rfl, hx3⟩
  go_wp2
  exact bodyPost_ret (v := .tuple #[.int .i64 (lowA (totS (kq d f k) (k * f + 1)) (f ^ d)), .int .i64 (lowB (totS (kq d f k) (k * f + 1)) (f ^ d)), .bool true]) (by simp [results, Try.results28]) rfl ⟨rfl, hx1.trans (hx3.mono hx1.size)⟩
theorem implAverageKept_no (d f k : Int) (w : World) (h : keptB d f k = false) :
    Calls Try.prog 28 #[.int .i64 d, .int .i64 f, .int .i64 k] w fun e w' => e = .returned (.tuple #[.int .i64 0, .int .i64 0, .bool false]) ∧ Below w.heap.size w w' := by
  go_enter Try.func28, Try.ntmps28
  go_wp2_with fail
  refine (sumsKept_no d f k _ h).mono ?_
  rintro e w1 ⟨rfl, hx1⟩
  go_wp2
  exact bodyPost_ret (v := .tuple #[.int .i64 0, .int .i64 0, .bool false]) (by simp [results, Try.results28]) rfl ⟨rfl, hx1⟩
theorem implAverageSum_yes (d f : Nat) (w : World) (hd1 : 1 ≤ d) (hd : d ≤ 8) (hf1 : 1 ≤ f) (hf : f ≤ 12) :
    Calls Try.prog 22 #[.int .i64 d, .int .i64 f] w fun e w' => e = .returned (.tuple #[.int .i64 (lowA (totS (kq d f d) (d * f + 1)) (f ^ d)), .int .i64 (lowB (totS (kq d f d) (d * f + 1)) (f ^ d)), .bool true]) ∧ Below w.heap.size w w' := by
  go_enter Try.func22, Try.ntmps22
  go_wp2_with fail
  refine (implAverageKept_yes d f d _ hd hf1 hf hd1 (Nat.le_refl _)).mono ?_
  rintro e w1 ⟨rfl, hx1⟩
  go_wp2
  exact bodyPost_ret (v := .tuple #[.int .i64 (lowA (totS (kq d f d) (d * f + 1)) (f ^ d)), .int .i64 (lowB (totS (kq d f d) (d * f + 1)) (f ^ d)), .bool true]) (by simp [results, Try.results22]) rfl ⟨rfl, hx1⟩
theorem implAverageSum_no (d f : Int) (w : World) (h : cupB d f = false) :
    Calls Try.prog 22 #[.int .i64 d, .int .i64 f] w fun e w' => e = .returned (.tuple #[.int .i64 0, .int .i64 0, .bool false]) ∧ Below w.heap.size w w' := by
  go_enter Try.func22, Try.ntmps22
  go_wp2_with fail
  refine (implAverageKept_no d f d _ (by rw [keptB_self]; exact h)).mono ?_
  rintro e w1 ⟨rfl, hx1⟩
  go_wp2
  exact bodyPost_ret (v := .tuple #[.int .i64 0, .int .i64 0, .bool false]) (by simp [results, Try.results22]) rfl ⟨rfl, hx1⟩

set_option maxRecDepth 100000 in
theorem implPartAtLeast_yes (d f s : Nat) (w : World) (hd1 : 1 ≤ d) (hd : d ≤ 8) (hf1 : 1 ≤ f) (hf : f ≤ 12) (hs : s ≤ 200) :
    Calls Try.prog 24 #[.int .i64 d, .int .i64 f, .int .i64 s] w fun e w' => e = .returned (.tuple #[.int .i64 (lowA (geS (kq d f d) s (d * f + 1)) (f ^ d)), .int .i64 (lowB (geS (kq d f d) s (d * f + 1)) (f ^ d)), .bool true]) ∧ Below w.heap.size w w' := by
  have hsb : sumB (s : Int) = true := sumB_iff.2 (by omega)
  have HSB := Lib.hid hsb; clear hsb
  have hb := kq_sum_le hd hf1 hf (Nat.le_refl d)
  have he := kq_all d f d (d * f + 1) (Nat.le_refl _) (by omega)
  have hle := geS_le (kq d f d) s (d * f + 1)
  have ha := fun gr w h => atLeast_any gr (d * f + 1) s (kq d f d) w h (kf97 hf hd) hs hb.2
  have h0 : ∀ gr w, TallyAt w gr (d * f + 1) (kq d f d) → Calls Try.prog 42 #[.slice (some ⟨gr, 0, none⟩) (d * f + 1) (d * f + 1), .int .i64 0] w fun e w' => e = .returned (.int .i64 (f ^ d : Nat)) ∧ w = w' := fun gr w h => by
    rw [← he, ← geS_zero]
    exact atLeast_any gr (d * f + 1) 0 (kq d f d) w h (kf97 hf hd) (by omega) hb.2
  rw [he] at hb hle
  obtain ⟨P, hP⟩ : ∃ P, P = f ^ d := ⟨_, rfl⟩
  obtain ⟨G, hG⟩ : ∃ G, G = geS (kq d f d) s (d * f + 1) := ⟨_, rfl⟩
  rw [← hP] at h0 hb hle
  rw [← hG] at ha hle
  rw [← hP, ← hG]
  have HA := Lib.hid ha; have H0 := Lib.hid h0
  have hp1 := hb.1
  have hg9 : G ≤ 1000000000 := by omega
  have hp9 : P ≤ 1000000000 := hb.2
  clear ha h0 he hP hG hb hle
  go_enter Try.func24, Try.ntmps24
  go_wp2_with fail
  refine (sumsOf_yes d f _ hd1 hd hf1 hf).mono ?_
  rintro e w1 ⟨gr, rfl, hgr, hr, hx1⟩
  go_wp2_with fail
  refine (isSum_any _ _).mono ?_
  rintro e w2 ⟨rfl, rfl⟩
  rw [HSB.out]
  go_wp2_with fail
  refine (HA.out gr _ hr).mono ?_
  rintro e w3 ⟨rfl, rfl⟩
  go_wp2_with fail
  refine (H0.out gr _ hr).mono ?_
  rintro e w4 ⟨rfl, rfl⟩
  go_wp2_with fail
  refine (lowest_any G P _ (by omega) (by omega) hp1).mono ?_
  rintro e w5 ⟨rfl, hx5⟩
  go_wp2
  exact bodyPost_ret (v := .tuple #[.int .i64 (lowA G P), .int .i64 (lowB G P), .bool true]) (by simp [results, Try.results24]) rfl ⟨rfl, hx1.trans (hx5.mono hx1.size)⟩
theorem implPartAtLeast_no (d f s : Int) (w : World) (h : cupB d f = false ∨ sumB s = false) :
    Calls Try.prog 24 #[.int .i64 d, .int .i64 f, .int .i64 s] w fun e w' => e = .returned (.tuple #[.int .i64 0, .int .i64 0, .bool false]) ∧ Below w.heap.size w w' := by
  cases hk : cupB d f
  · go_enter Try.func24, Try.ntmps24
    go_wp2_with fail
    refine (sumsOf_no d f _ hk).mono ?_
    rintro e w1 ⟨rfl, hx1⟩
    go_wp2
    exact bodyPost_ret (v := .tuple #[.int .i64 0, .int .i64 0, .bool false]) (by simp [results, Try.results24]) rfl ⟨rfl, hx1⟩
  · have hs : sumB s = false := by
      rcases h with h | h
      · rw [hk] at h; cases h
      · exact h
    obtain ⟨m, n, rfl, rfl, h1, h2, h3, h4⟩ := cupB_nat hk
    have HSB := Lib.hid hs
    clear hs h hk
    go_enter Try.func24, Try.ntmps24
    go_wp2_with fail
    refine (sumsOf_yes m n _ h1 h2 h3 h4).mono ?_
    rintro e w1 ⟨gr, rfl, hgr, hr, hx1⟩
    go_wp2_with fail
    refine (isSum_any _ _).mono ?_
    rintro e w2 ⟨rfl, rfl⟩
    rw [HSB.out]
    go_wp2
    exact bodyPost_ret (v := .tuple #[.int .i64 0, .int .i64 0, .bool false]) (by simp [results, Try.results24]) rfl ⟨rfl, hx1⟩
end Go.Proofs.Ytblpfjjnlfjloab
