/-
  Pairs: the model compares fractions: meLess.
-/
import Derived.Test.YtblpfjjnlfjloaaM52
import Derived.Test.YtblpfjjnlfjloaaC5y
import Derived.StillTailTactics
namespace Go.Proofs.Ytblpfjjnlfjloaa
open Go.RowKit

set_option maxRecDepth 100000 in
set_option maxHeartbeats 1000000 in
theorem meLess_any (a0 b0 c0 d0 : Nat) (w : World) (ha : a0 ≤ 10000000) (hb : b0 ≤ 10000000) (hc : c0 ≤ 10000000) (hd : d0 ≤ 10000000) (hb1 : 1 ≤ b0) (hd1 : 1 ≤ d0) :
    Calls Try.prog 83 #[.int .i64 a0, .int .i64 b0, .int .i64 c0, .int .i64 d0] w fun e w' => e = .returned (.bool (decide (a0 * d0 < c0 * b0))) ∧ Below w.heap.size w w' := by
  obtain ⟨v, hv⟩ : ∃ v, v = decide (a0 * d0 < c0 * b0) := ⟨_, rfl⟩
  rw [← hv]
  go_enter Try.func83, Try.ntmps83
  go_wp2
  go_loopw [0, 1, 2, 3] (fun A B C D wr => ∃ a b c d : Nat, A = .int .i64 a ∧ B = .int .i64 b ∧ C = .int .i64 c ∧ D = .int .i64 d ∧ a ≤ 10000000 ∧ b ≤ 10000000 ∧ c ≤ 10000000 ∧ d ≤ 10000000 ∧ 1 ≤ b ∧ 1 ≤ d ∧ v = decide (a * d < c * b) ∧ Below w.heap.size w wr) (fun _ B _ D _ => (intOf B + intOf D).toNat)
  case atStart => exact ⟨a0, b0, c0, d0, rfl, rfl, rfl, rfl, ha, hb, hc, hd, hb1, hd1, hv, Below.refl _ _⟩
  case round =>
    clear ha hb hc hd hb1 hd1 hv
    obtain ⟨a, b, c, d, rfl, rfl, rfl, rfl, ha, hb, hc, hd, hb1, hd1, hv, hB⟩ := hrel
    have n1 : (b : Int) ≠ 0 := by omega
    have n2 : (d : Int) ≠ 0 := by omega
    obtain ⟨u, hu⟩ : ∃ u, u = a / b := ⟨_, rfl⟩
    obtain ⟨z, hz⟩ : ∃ z, z = c / d := ⟨_, rfl⟩
    obtain ⟨r, hr⟩ : ∃ r, r = a % b := ⟨_, rfl⟩
    obtain ⟨t, ht⟩ : ∃ t, t = c % d := ⟨_, rfl⟩
    have l1 := Nat.mod_lt a hb1
    have l2 := Nat.mod_lt c hd1
    rw [← hr] at l1
    rw [← ht] at l2
    have q1 : (a : Int) / (b : Int) = (u : Int) := by rw [hu]; rfl
    have q2 : (c : Int) / (d : Int) = (z : Int) := by rw [hz]; rfl
    have r1 : (a : Int) % (b : Int) = (r : Int) := by rw [hr]; rfl
    have r2 : (c : Int) % (d : Int) = (t : Int) := by rw [ht]; rfl
    have q1' : (a : Int).tdiv (b : Int) = (u : Int) := by rw [hu]; exact Int.ofNat_tdiv a b
    have q2' : (c : Int).tdiv (d : Int) = (z : Int) := by rw [hz]; exact Int.ofNat_tdiv c d
    have r1' : (a : Int).tmod (b : Int) = (r : Int) := by rw [hr]; exact Int.ofNat_tmod a b
    have r2' : (c : Int).tmod (d : Int) = (t : Int) := by rw [ht]; exact Int.ofNat_tmod c d
    have hu7 : u ≤ 10000000 := by have := Nat.div_le_self a b; omega
    have hz7 : z ≤ 10000000 := by have := Nat.div_le_self c d; omega
    have wu : IntKind.i64.wrap (u : Int) = (u : Int) := IntWalk.i64_in _ (by omega)
    have wz : IntKind.i64.wrap (z : Int) = (z : Int) := IntWalk.i64_in _ (by omega)
    by_cases he : u = z
    · subst he
      have hv2 : v = decide (r * d < t * b) := by rw [hv, hr, ht]; simp only [less_eq hb1 hd1 (hu.symm.trans hz)]
      clear hu hz hr ht hv
      by_cases hr0 : r = 0
      · subst hr0
        have hv3 : v = decide (0 < t) := by rw [hv2]; simp only [less_left hb1]
        have HV := Lib.hid hv3
        clear hv2 hv3
        go_wp2_with fail
        go_quiet (fail)
        go_wp2_with fail
        go_ret
        exact ⟨ret_bool (by rw [HV.out]), drewB hB _⟩
      · by_cases ht0 : t = 0
        · subst ht0
          have hv3 : v = false := by rw [hv2]; simp
          subst hv3
          have hr1 : ((r : Int) == 0) = false := by simp; omega
          clear hv2
          go_wp2_with fail
          go_quiet (fail)
          go_wp2_with fail
          go_ret
          exact ⟨rfl, drewB hB _⟩
        · have hr1 : ((r : Int) == 0) = false := by simp; omega
          have ht1 : ((t : Int) == 0) = false := by simp; omega
          have HV := Lib.hid hv2
          clear hv2
          go_wp2_with fail
          go_quiet (fail)
          go_wp2_with fail
          go_roundw
          case rel => exact ⟨d, t, b, r, rfl, rfl, rfl, rfl, hd, by omega, hb, by omega, by omega, by omega, by rw [HV.out]; simp only [less_swap], drewB hB _⟩
          case measure => simp [intOf] <;> omega
    · have hne : ((u : Int) != (z : Int)) = true := by simp; omega
      have hv2 : v = decide (u < z) := by rw [hv]; simp only [less_ne hb1 hd1 (by rw [← hu, ← hz]; exact he)]; rw [hu, hz]
      have HV := Lib.hid hv2
      clear hu hz hr ht hv hv2
      go_wp2_with fail
      go_quiet (fail)
      go_wp2_with fail
      go_quiet (fail)
      go_wp2_with fail
      go_ret
      exact ⟨ret_bool (by rw [HV.out]), drewB (drewB hB _) _⟩
end Go.Proofs.Ytblpfjjnlfjloaa
