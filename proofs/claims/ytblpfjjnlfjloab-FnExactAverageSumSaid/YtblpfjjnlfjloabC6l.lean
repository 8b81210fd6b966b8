/-
  Dice: WaysOfSum, PartAtLeast, AverageSum, the model's, and both sides.
-/
import Derived.Test.YtblpfjjnlfjloabC6i
import Derived.Test.YtblpfjjnlfjloabC6k
import Derived.Test.YtblpfjjnlfjloabM44
namespace Go.Proofs.Ytblpfjjnlfjloab
open Go.RowKit

set_option maxRecDepth 100000 in
theorem specWaysOfSum_yes (d f s : Nat) (w : World) (hd1 : 1 ≤ d) (hd : d ≤ 8) (hf1 : 1 ≤ f) (hf : f ≤ 12) (hs : s ≤ 200) :
    Calls Try.prog 12 #[.int .i64 d, .int .i64 f, .int .i64 s] w fun e w' => e = .returned (.tuple #[.int .i64 (cv d f s : Nat), .bool true]) ∧ Below w.heap.size w w' := by
  have hc : cupB (d : Int) (f : Int) = true := cupB_iff.2 (by omega)
  have hb : inB (s : Int) 0 200 = true := inB_iff.2 (by omega)
  have HC := Lib.hid hc; have HB := Lib.hid hb
  clear hc hb
  go_enter Try.func12, Try.ntmps12
  go_wp2_with fail
  refine (diAsked_any _ _ _).mono ?_
  rintro e w1 ⟨rfl, rfl⟩
  rw [HC.out]
  go_wp2_with fail
  refine (l1In_d _ _ _ _).mono ?_
  rintro e w1 ⟨rfl, rfl⟩
  rw [HB.out]
  go_wp2_with fail
  refine (diSums_any d f _ hd hf1 hf).mono ?_
  rintro e w1 ⟨g, rfl, hg, hT, hx⟩
  have hn97 := kf97 hf hd
  obtain ⟨n, hn⟩ : ∃ n, n = d * f + 1 := ⟨_, rfl⟩
  rw [← hn] at hT hn97 ⊢
  by_cases hlt : s < n
  · have c1 : w1.cell? ⟨g, s, none⟩ = some (.int .i64 (cv d f s : Nat)) := RowI.cell hT hlt
    have h1 : (s : Int) < (n : Int) := by omega
    clear hn
    go_wp2
    go_ret2
    exact ⟨rfl, hx⟩
  · have h1 : (n : Int) ≤ (s : Int) := by omega
    have h0 : cv d f s = 0 := cv_over f d s (by omega)
    have H0 := Lib.hid h0
    clear hn h0
    go_wp2
    go_ret2
    exact ⟨by rw [H0.out]; rfl, hx⟩
set_option maxRecDepth 100000 in
theorem specWaysOfSum_no (d f s : Int) (w : World) (h : cupB d f = false ∨ sumB s = false) :
    Calls Try.prog 12 #[.int .i64 d, .int .i64 f, .int .i64 s] w fun e w' => e = .returned (.tuple #[.int .i64 0, .bool false]) ∧ Below w.heap.size w w' := by
  cases hc : cupB d f
  · have HC := Lib.hid hc
    clear hc h
    go_enter Try.func12, Try.ntmps12
    go_wp2_with fail
    refine (diAsked_any _ _ _).mono ?_
    rintro e w1 ⟨rfl, rfl⟩
    rw [HC.out]
    go_wp2
    go_ret2
    exact ⟨rfl, Below.refl _ _⟩
  · have hb : inB s 0 200 = false := by
      rw [← sumB_in]
      rcases h with h | h
      · rw [hc] at h; cases h
      · exact h
    have HC := Lib.hid hc; have HB := Lib.hid hb
    clear hc hb h
    go_enter Try.func12, Try.ntmps12
    go_wp2_with fail
    refine (diAsked_any _ _ _).mono ?_
    rintro e w1 ⟨rfl, rfl⟩
    rw [HC.out]
    go_wp2_with fail
    refine (l1In_d _ _ _ _).mono ?_
    rintro e w1 ⟨rfl, rfl⟩
    rw [HB.out]
    go_wp2
    go_ret2
    exact ⟨rfl, Below.refl _ _⟩

theorem waysOfSum_both (d f s : Int) : ∃ (x : Int) (ok : Bool),
    (∀ w, Calls Try.prog 12 #[.int .i64 d, .int .i64 f, .int .i64 s] w fun e w' => e = .returned (.tuple #[.int .i64 x, .bool ok]) ∧ Below w.heap.size w w') ∧
    (∀ w, Calls Try.prog 13 #[.int .i64 d, .int .i64 f, .int .i64 s] w fun e w' => e = .returned (.tuple #[.int .i64 x, .bool ok]) ∧ Below w.heap.size w w') := by
  by_cases h : cupB d f = true ∧ sumB s = true
  · obtain ⟨hc, hs⟩ := h
    obtain ⟨m, n, rfl, rfl, h1, h2, h3, h4⟩ := cupB_nat hc
    have h5 := sumB_iff.1 hs
    obtain ⟨q, rfl⟩ : ∃ q : Nat, s = q := ⟨s.toNat, by omega⟩
    exact ⟨_, _, fun w => specWaysOfSum_yes m n q w h1 h2 h3 h4 (by omega), fun w => by rw [← kq_cv]; exact implWaysOfSum_yes m n q w h1 h2 h3 h4 (by omega)⟩
  · have h' : cupB d f = false ∨ sumB s = false := by
      cases h1 : cupB d f
      · exact .inl rfl
      · cases h2 : sumB s
        · exact .inr rfl
        · exact absurd ⟨h1, h2⟩ h
    exact ⟨0, false, fun w => specWaysOfSum_no d f s w h', fun w => implWaysOfSum_no d f s w h'⟩
end Go.Proofs.Ytblpfjjnlfjloab
