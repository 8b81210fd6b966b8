/-
  Pairs: IsPair, the model's and the program's; the course of a pair.
-/
import Derived.Test.YtblpfjjnlfjloaaC1d
import Derived.Test.YtblpfjjnlfjloaaC1h
import Derived.Test.YtblpfjjnlfjloaaM31
import Derived.Deep.QuietTactic
import Derived.BigQuiet
namespace Go.Proofs.Ytblpfjjnlfjloaa
open Go.RowKit

def pairOk (s f a b : Int) : Bool := inB s 1 6 && inB f 1 4 && inB a 0 s && inB b 0 s
theorem pairOk_iff {s f a b : Int} : pairOk s f a b = true ↔ (1 ≤ s ∧ s ≤ 6) ∧ (1 ≤ f ∧ f ≤ 4) ∧ (0 ≤ a ∧ a ≤ s) ∧ (0 ≤ b ∧ b ≤ s) := by
  simp only [pairOk, Bool.and_eq_true, inB_iff, and_assoc]
theorem pairOk_no {s f a b : Int} (h : ¬ ((1 ≤ s ∧ s ≤ 6) ∧ (1 ≤ f ∧ f ≤ 4) ∧ (0 ≤ a ∧ a ≤ s) ∧ (0 ≤ b ∧ b ≤ s))) : pairOk s f a b = false := by
  cases hp : pairOk s f a b
  · rfl
  · exact absurd (pairOk_iff.1 hp) h

theorem l1In_p (n lo hi : Int) (w : World) : Calls Try.prog 41 #[.int .i64 n, .int .i64 lo, .int .i64 hi] w fun e w' => e = .returned (.bool (inB n lo hi)) ∧ w = w' := by
  go_enter Try.func41, Try.ntmps41
  by_cases h : lo ≤ n
  · have h1 : decide (lo ≤ n) = true := by simpa using h
    go_wp2
    go_ret
    exact ⟨ret_bool (by simp [inB, h1]), rfl⟩
  · have h1 : decide (lo ≤ n) = false := by simpa using h
    go_wp2
    go_ret
    exact ⟨ret_bool (by simp [inB, h1]), rfl⟩

theorem oiGood_any (s f a b : Int) (w : World) : Calls Try.prog 37 #[.int .i64 s, .int .i64 f, .int .i64 a, .int .i64 b] w fun e w' => e = .returned (.bool (pairOk s f a b)) ∧ w = w' := by
  cases h1 : inB s 1 6 <;> cases h2 : inB f 1 4 <;> cases h3 : inB a 0 s <;> cases h4 : inB b 0 s
  all_goals
    have hp : pairOk s f a b = pairOk s f a b := rfl
    conv at hp => rhs; rw [pairOk, h1, h2, h3, h4]
    simp only [Bool.and_true, Bool.and_false] at hp
    have HP := Lib.hid hp; clear hp
    go_enter Try.func37, Try.ntmps37
    go_wp2_with (go_at_call 41; refine (l1In_p _ _ _ _).mono ?_; rintro e w' ⟨rfl, rfl⟩)
    go_ret
    exact ⟨ret_bool HP.out.symm, rfl⟩


theorem implIsPair_any (s f a b : Int) (w : World) : Calls Try.prog 73 #[.int .i64 s, .int .i64 f, .int .i64 a, .int .i64 b] w fun e w' => e = .returned (.bool (pairOk s f a b)) ∧ w = w' := by
  obtain ⟨r, hr⟩ : ∃ r, pairOk s f a b = r := ⟨_, rfl⟩
  rw [hr]
  have HR := Lib.hid hr; clear hr
  go_enter Try.func73, Try.ntmps73
  go_wp2_with fail
  all_goals
    go_ret
    refine ⟨ret_bool ?_, rfl⟩
    rw [← HR.out]
    first | exact (pairOk_no (by omega)).symm | (rw [Bool.eq_iff_iff, pairOk_iff]; simp; omega)

end Go.Proofs.Ytblpfjjnlfjloaa
