/-
  Fractions in lowest terms, the model's and the program's.
-/
import Derived.Test.YtblpfjjnlfjloaaChecked
import Derived.Test.YtblpfjjnlfjloaaW
import Derived.Test.YtblpfjjnlfjloaaM2
import Derived.Deep.QuietTactic
import Derived.BigQuiet
namespace Go.Proofs.Ytblpfjjnlfjloaa
open Go.RowKit

theorem gcd_step (x y : Nat) : Nat.gcd y (x % y) = Nat.gcd x y := by rw [Nat.gcd_comm y, ← Nat.gcd_rec, Nat.gcd_comm]
/-- A fraction's lowest terms, as 64 bits hold them. -/
def lowA (a b : Nat) : Int := wrap64 ((a : Int) / (Nat.gcd a b : Nat))
def lowB (a b : Nat) : Int := wrap64 ((b : Int) / (Nat.gcd a b : Nat))

set_option maxHeartbeats 400000 in
theorem greatest_any (x y : Nat) (w : World) (hx : x ≤ 1152921504606846976) (hy : y ≤ 1152921504606846976) :
    Calls Try.prog 97 #[.int .i64 x, .int .i64 y] w fun e w' => e = .returned (.int .i64 (Nat.gcd x y : Nat)) ∧ Below w.heap.size w w' := by
  go_enter Try.func97, Try.ntmps97
  go_wp2
  go_loopw [0, 1] (fun X Y wr => ∃ a b : Nat, X = .int .i64 a ∧ Y = .int .i64 b ∧ Nat.gcd a b = Nat.gcd x y ∧ a ≤ 1152921504606846976 ∧ b ≤ 1152921504606846976 ∧ Below w.heap.size w wr) (fun _ Y _ => (intOf Y).toNat)
  case atStart => exact ⟨x, y, rfl, rfl, rfl, hx, hy, Below.refl _ _⟩
  case round =>
    obtain ⟨a, b, rfl, rfl, hg, ha, hb, hB⟩ := hrel
    have HG := Lib.hid hg; clear hg
    by_cases h : 0 < b
    · have h1 : (0 : Int) < (b : Int) := by omega
      have h2 : (b : Int) ≠ 0 := by omega
      have hml := Nat.mod_lt a h
      have hmc : (a : Int) % (b : Int) = ((a % b : Nat) : Int) := rfl
      have HM := Lib.hid hmc; clear hmc
      go_wp2
      go_region
      all_goals
        go_wp2
        go_roundw
        case rel => exact ⟨b, a % b, rfl, by rw [HM.out], by rw [gcd_step]; exact HG.out, hb, by omega, hB.drew⟩
        case measure => rw [HM.out]; simp [intOf]; omega
    · obtain rfl : b = 0 := by omega
      go_wp2
      go_ret
      exact ⟨ret_int (by rw [← HG.out, Nat.gcd_zero_right]), hB⟩

set_option maxHeartbeats 400000 in
theorem lowest_any (x y : Nat) (w : World) (hx : x ≤ 1152921504606846976) (hy : y ≤ 1152921504606846976) (hy1 : 1 ≤ y) :
    Calls Try.prog 96 #[.int .i64 x, .int .i64 y] w fun e w' => e = .returned (.tuple #[.int .i64 (lowA x y), .int .i64 (lowB x y)]) ∧ Below w.heap.size w w' := by
  have hg := Nat.gcd_pos_of_pos_right x (show 0 < y by omega)
  have hne : ((Nat.gcd x y : Nat) : Int) ≠ 0 := by omega
  go_enter Try.func96, Try.ntmps96
  go_wp2_with (go_at_call 97; refine (greatest_any x y _ hx hy).mono ?_; rintro e w' ⟨rfl, hB⟩)
  go_region
  all_goals
    go_wp2
    go_ret2
    exact ⟨rfl, hB.drew⟩

end Go.Proofs.Ytblpfjjnlfjloaa
