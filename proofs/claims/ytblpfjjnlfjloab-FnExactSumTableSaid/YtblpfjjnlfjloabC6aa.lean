/-
  Dice: SumTable on both sides.
-/
import Derived.Test.YtblpfjjnlfjloabC6h
import Derived.Test.YtblpfjjnlfjloabC6k
import Derived.Test.YtblpfjjnlfjloabL10
namespace Go.Proofs.Ytblpfjjnlfjloab
open Go.RowKit

/-- The sums from the number of dice on. -/
def sumTab (d f : Nat) : List Int := (List.range (d * f + 1 - d)).map fun i => (cv d f (d + i) : Int)
theorem sumTab_len (d f : Nat) : (sumTab d f).length = d * f + 1 - d := by simp [sumTab]
theorem sumTab_at (d f k : Nat) (h : k < d * f + 1 - d) : (sumTab d f).getD k 0 = (cv d f (d + k) : Int) := by
  simp [sumTab, List.getD_eq_getElem?_getD, h]
theorem sumTab_ox {w : World} {lo g d f : Nat} (hf1 : 1 ≤ f) (hlo : lo ≤ g) (h : TallyAt w g (d * f + 1) (cv d f)) : OX w lo 3 (some ⟨g, d, none⟩) (sumTab d f).length (fun k => (sumTab d f).getD k 0) := by
  have hdf : d ≤ d * f := Nat.le_mul_of_pos_right d hf1
  rw [sumTab_len]
  refine .inr ⟨g, d, fun i => (cv d f i : Int), rfl, hlo, ?_, fun k hk => (sumTab_at d f k hk).symm⟩
  rw [show d + (d * f + 1 - d) = d * f + 1 by omega]
  exact h

set_option maxRecDepth 100000 in
theorem implSumTable_yes (d f : Nat) (w : World) (hd1 : 1 ≤ d) (hd : d ≤ 8) (hf1 : 1 ≤ f) (hf : f ≤ 12) :
    Calls Try.prog 15 #[.int .i64 d, .int .i64 f] w (IntsBackX w (sumTab d f, true)) := by
  have hdf : d ≤ d * f := Nat.le_mul_of_pos_right d hf1
  have hn97 := kf97 hf hd
  have hlen := sumTab_len d f
  obtain ⟨n, hn⟩ : ∃ n, n = d * f + 1 := ⟨_, rfl⟩
  have hdn : d < n := by omega
  have hdni : (d : Int) < (n : Int) := by omega
  rw [← hn] at hn97 hlen
  have HN := Lib.hid hn; have HLEN := Lib.hid hlen
  clear hn hdf hlen
  go_enter Try.func15, Try.ntmps15
  go_wp2_with fail
  refine (sumsOf_yes d f _ hd1 hd hf1 hf).mono ?_
  rintro e w1 ⟨gr, rfl, hgr, hr, hx1⟩
  have hr2 : TallyAt w1 gr (d * f + 1) (cv d f) := by
    have e : kq d f d = cv d f := by funext i; exact kq_cv d f i
    rw [← e]; exact hr
  have hox := sumTab_ox hf1 hgr hr2
  have HOX := Lib.hid hox
  rw [← HN.out]
  clear hr hr2 hox
  go_wp2
  go_ret2
  exact ⟨some ⟨gr, d, none⟩, n - d, by rw [HLEN.out]; rfl, HOX.out, hx1⟩
theorem implSumTable_no (d f : Int) (w : World) (h : cupB d f = false) :
    Calls Try.prog 15 #[.int .i64 d, .int .i64 f] w (IntsBackX w ([], false)) := by
  go_enter Try.func15, Try.ntmps15
  go_wp2_with fail
  refine (sumsOf_no d f _ h).mono ?_
  rintro e w1 ⟨rfl, hx1⟩
  go_wp2
  go_ret2
  exact ⟨none, 0, rfl, .inl rfl, hx1⟩
set_option maxRecDepth 100000 in
theorem specSumTable_yes (d f : Nat) (w : World) (hd1 : 1 ≤ d) (hd : d ≤ 8) (hf1 : 1 ≤ f) (hf : f ≤ 12) :
    Calls Try.prog 14 #[.int .i64 d, .int .i64 f] w (IntsBackX w (sumTab d f, true)) := by
  have hc : cupB (d : Int) (f : Int) = true := cupB_iff.2 (by omega)
  have hdf : d ≤ d * f := Nat.le_mul_of_pos_right d hf1
  have hn97 := kf97 hf hd
  have hlen := sumTab_len d f
  obtain ⟨n, hn⟩ : ∃ n, n = d * f + 1 := ⟨_, rfl⟩
  have hdn : d < n := by omega
  have hdni : (d : Int) < (n : Int) := by omega
  rw [← hn] at hn97 hlen
  have HN := Lib.hid hn; have HLEN := Lib.hid hlen; have HC := Lib.hid hc
  clear hn hdf hlen hc
  go_enter Try.func14, Try.ntmps14
  go_wp2_with fail
  refine (diAsked_any _ _ _).mono ?_
  rintro e w0 ⟨rfl, rfl⟩
  rw [HC.out]
  go_wp2_with fail
  refine (diSums_any d f _ hd hf1 hf).mono ?_
  rintro e w1 ⟨gr, rfl, hgr, hr, hx1⟩
  have hox := sumTab_ox hf1 hgr hr
  have HOX := Lib.hid hox
  rw [← HN.out]
  clear hr hox
  go_wp2
  go_ret2
  exact ⟨some ⟨gr, d, none⟩, n - d, by rw [HLEN.out]; rfl, HOX.out, hx1⟩
theorem specSumTable_no (d f : Int) (w : World) (h : cupB d f = false) :
    Calls Try.prog 14 #[.int .i64 d, .int .i64 f] w (IntsBackX w ([], false)) := by
  have HC := Lib.hid h
  clear h
  go_enter Try.func14, Try.ntmps14
  go_wp2_with fail
  refine (diAsked_any _ _ _).mono ?_
  rintro e w0 ⟨rfl, rfl⟩
  rw [HC.out]
  go_wp2
  go_ret2
  exact ⟨none, 0, rfl, .inl rfl, Below.refl _ _⟩
theorem sumTable_both (d f : Int) : ∃ R : List Int × Bool, R.1.length ≤ 1048576 ∧
    (∀ w, Calls Try.prog 14 #[.int .i64 d, .int .i64 f] w (IntsBackX w R)) ∧
    (∀ w, Calls Try.prog 15 #[.int .i64 d, .int .i64 f] w (IntsBackX w R)) := by
  cases hc : cupB d f
  · exact ⟨([], false), by simp, fun w => specSumTable_no d f w hc, fun w => implSumTable_no d f w hc⟩
  · obtain ⟨m, n, rfl, rfl, h1, h2, h3, h4⟩ := cupB_nat hc
    exact ⟨(sumTab m n, true), by have := sumTab_len m n; have := kf97 h4 h2; simp only; omega, fun w => specSumTable_yes m n w h1 h2 h3 h4, fun w => implSumTable_yes m n w h1 h2 h3 h4⟩
end Go.Proofs.Ytblpfjjnlfjloab
