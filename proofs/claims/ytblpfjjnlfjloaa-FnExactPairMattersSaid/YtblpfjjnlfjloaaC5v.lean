/-
  Pairs: the model's fractions: meLow, oiAdd, oiOver, oiNext.
-/
import Derived.Test.YtblpfjjnlfjloaaC5p
import Derived.Test.YtblpfjjnlfjloaaM35
import Derived.StillTailTactics
namespace Go.Proofs.Ytblpfjjnlfjloaa
open Go.RowKit

set_option maxHeartbeats 400000 in
theorem meLow_any (x y : Nat) (w : World) (hx : x ≤ 1152921504606846976) (hy : y ≤ 1152921504606846976) (hy1 : 1 ≤ y) :
    Calls Try.prog 84 #[.int .i64 x, .int .i64 y] w fun e w' => e = .returned (.tuple #[.int .i64 (lowA x y), .int .i64 (lowB x y)]) ∧ Below w.heap.size w w' := by
  have hg := Nat.gcd_pos_of_pos_right x (show 0 < y by omega)
  have hne : ((Nat.gcd x y : Nat) : Int) ≠ 0 := by omega
  go_enter Try.func84, Try.ntmps84
  go_wp2
  go_loopw [6, 7] (fun X Y wr => ∃ a b : Nat, X = .int .i64 a ∧ Y = .int .i64 b ∧ Nat.gcd a b = Nat.gcd x y ∧ a ≤ 1152921504606846976 ∧ b ≤ 1152921504606846976 ∧ Below w.heap.size w wr) (fun _ Y _ => (intOf Y).toNat)
  case atStart => exact ⟨x, y, rfl, rfl, rfl, hx, hy, Below.refl _ _⟩
  case round =>
    obtain ⟨a, b, rfl, rfl, hg, ha, hb, hB⟩ := hrel
    have HG := Lib.hid hg; clear hg
    by_cases h : 0 < b
    · have h1 : (0 : Int) < (b : Int) := by omega
      have h2 : (b : Int) ≠ 0 := by omega
      have hml := Nat.mod_lt a h
      have hmc : (a : Int) % (b : Int) = ((a % b : Nat) : Int) := rfl
      have HM := Lib.hid hmc; clear hmc
      go_wp2
      go_region
      all_goals
        go_wp2
        go_roundw
        case rel => exact ⟨b, a % b, rfl, by rw [HM.out], by rw [gcd_step]; exact HG.out, hb, by omega, hB.drew⟩
        case measure => rw [HM.out]; simp [intOf]; omega
    · obtain rfl : b = 0 := by omega
      have e : a = Nat.gcd x y := by rw [← HG.out, Nat.gcd_zero_right]
      subst e
      go_wp2
      go_region
      all_goals
        go_wp2
        go_ret2
        exact ⟨rfl, hB.drew⟩

set_option maxHeartbeats 400000 in
theorem meLow_quiet (x y : Nat) (w : World) (hx : x ≤ 1152921504606846976) (hy : y ≤ 1152921504606846976) (hy1 : 1 ≤ y) :
    Calls Try.prog 84 #[.int .i64 x, .int .i64 y] w fun e w' => e = .returned (.tuple #[.int .i64 (lowA x y), .int .i64 (lowB x y)]) ∧ ∃ m, w' = w.drewN m := by
  have hg := Nat.gcd_pos_of_pos_right x (show 0 < y by omega)
  have hne : ((Nat.gcd x y : Nat) : Int) ≠ 0 := by omega
  go_enter Try.func84, Try.ntmps84
  go_wp2
  go_loopw [6, 7] (fun X Y wr => ∃ a b : Nat, X = .int .i64 a ∧ Y = .int .i64 b ∧ Nat.gcd a b = Nat.gcd x y ∧ a ≤ 1152921504606846976 ∧ b ≤ 1152921504606846976 ∧ ∃ j, wr = w.drewN j) (fun _ Y _ => (intOf Y).toNat)
  case atStart => exact ⟨x, y, rfl, rfl, rfl, hx, hy, 0, rfl⟩
  case round =>
    obtain ⟨a, b, rfl, rfl, hg, ha, hb, j, hj⟩ := hrel
    have HJ := Lib.hid hj; clear hj
    have HG := Lib.hid hg; clear hg
    by_cases h : 0 < b
    · have h1 : (0 : Int) < (b : Int) := by omega
      have h2 : (b : Int) ≠ 0 := by omega
      have hml := Nat.mod_lt a h
      have hmc : (a : Int) % (b : Int) = ((a % b : Nat) : Int) := rfl
      have HM := Lib.hid hmc; clear hmc
      go_wp2
      go_region
      all_goals
        go_wp2
        go_roundw
        case rel => exact ⟨b, a % b, rfl, by rw [HM.out], by rw [gcd_step]; exact HG.out, hb, by omega, j + 1, by rw [HJ.out]; rfl⟩
        case measure => rw [HM.out]; simp [intOf]; omega
    · obtain rfl : b = 0 := by omega
      have e : a = Nat.gcd x y := by rw [← HG.out, Nat.gcd_zero_right]
      subst e
      go_wp2
      go_region
      all_goals
        go_wp2
        go_ret2
        exact ⟨rfl, j + 1, by rw [HJ.out]; rfl⟩

theorem oiNext_any (x y tok face : Nat) (w : World) (hx : x ≤ 100) (hy : y ≤ 100) (hf : face ≤ 8) :
    Calls Try.prog 64 #[.int .i64 x, .int .i64 y, .int .i64 tok, .int .i64 face] w fun e w' => e = .returned (.tuple #[.int .i64 (if tok = 0 then x + face else x : Nat), .int .i64 (if tok = 0 then y else y + face : Nat)]) ∧ Below w.heap.size w w' := by
  have wx : IntKind.i64.wrap ((x : Int) + (face : Int)) = ((x + face : Nat) : Int) := by rw [IntWalk.i64_in _ (by omega)]; omega
  have wy : IntKind.i64.wrap ((y : Int) + (face : Int)) = ((y + face : Nat) : Int) := by rw [IntWalk.i64_in _ (by omega)]; omega
  obtain ⟨X, hX⟩ : ∃ X, X = x + face := ⟨_, rfl⟩
  obtain ⟨Y, hY⟩ : ∃ Y, Y = y + face := ⟨_, rfl⟩
  rw [← hX] at wx ⊢
  rw [← hY] at wy ⊢
  clear hX hY
  by_cases h : tok = 0
  · have e : ((tok : Int) == 0) = true := by simp [h]
    rw [if_pos h, if_pos h]
    clear h
    go_enter Try.func64, Try.ntmps64
    go_wp2_with fail
    first | go_quiet (fail) | skip
    go_wp2
    go_ret2
    exact ⟨rfl, by first | exact Below.refl _ _ | exact drewB (Below.refl _ _) _⟩
  · have e : ((tok : Int) == 0) = false := beq_eq_false_iff_ne.2 (by omega)
    rw [if_neg h, if_neg h]
    clear h
    go_enter Try.func64, Try.ntmps64
    go_wp2_with fail
    first | go_quiet (fail) | skip
    go_wp2
    go_ret2
    exact ⟨rfl, by first | exact Below.refl _ _ | exact drewB (Below.refl _ _) _⟩

set_option maxRecDepth 100000 in
set_option maxHeartbeats 1000000 in
theorem oiOver_any (p : Fr) (n : Nat) (w : World) (h1 : p.1 ≤ 1000000000000000) (hn1 : 1 ≤ n) (hn : n ≤ 1000000) (h2 : n * p.2 ≤ 1000000000000000) :
    Calls Try.prog 66 #[.agg #[.int .i64 (p.1 : Nat), .int .i64 (p.2 : Nat)], .int .i64 n] w (FrBack w (overS p n)) := by
  obtain ⟨a, b⟩ := p
  simp only at h1 h2 ⊢
  have hr := redF_le a n
  have hm : (redF a n).2 * b ≤ 1000000000000000 := Nat.le_trans (Nat.mul_le_mul_right b hr.2) h2
  have hv : overS (a, b) n = ((redF a n).1, (redF a n).2 * b) := rfl
  rw [hv]
  obtain ⟨u, hu⟩ : ∃ u, u = (redF a n).1 := ⟨_, rfl⟩
  obtain ⟨v, hv2⟩ : ∃ v, v = (redF a n).2 := ⟨_, rfl⟩
  have hcall := fun w => meLow_any a n w (by omega) (by omega) hn1
  rw [lowA_nat (by omega), lowB_nat (by omega)] at hcall
  simp only [← hu, ← hv2] at hcall hm ⊢
  have wm : IntKind.i64.wrap ((v : Int) * (b : Int)) = ((v * b : Nat) : Int) := by rw [← Int.natCast_mul]; exact IntWalk.i64_in _ (by omega)
  obtain ⟨m, hm2⟩ : ∃ m, m = v * b := ⟨_, rfl⟩
  rw [← hm2] at wm hm ⊢
  have HC := Lib.hid hcall
  clear hu hv2 hm2 hv hr hcall
  go_enter Try.func66, Try.ntmps66
  go_wp2_with fail
  refine (HC.out _).mono ?_
  rintro e w2 ⟨rfl, hx⟩
  have k0 : w2.heap[w.heap.size]? = some (.cells #[.int .i64 (a : Int), .int .i64 (b : Int)] 78 (0, 0)) := (hx.block _ (by simp; omega)).trans ((Below.heap_alloc _ _ _ (by simp)).trans (heap_alloc_at _ _ _ rfl))
  have k1 : w2.heap[w.heap.size + 1]? = some (.cells #[.int .i64 0, .int .i64 0] 78 (0, 0)) := (hx.block _ (by simp)).trans (heap_alloc_at _ _ _ (by simp))
  have q0 := fun i => cell_of_row w2 w.heap.size i _ _ _ k0
  have q1 := fun i => cell_of_row w2 (w.heap.size + 1) i _ _ _ k1
  have f1 := fun i => frozen_row (i := i) k1
  have hb : Below w.heap.size w w2 := (below2 _ _ _).trans (hx.mono (by simp; omega))
  clear k0 k1 hx
  go_wp2
  exact bodyPost_ret (v := .agg #[.int .i64 (u : Nat), .int .i64 (m : Nat)]) (by simp [results, Try.results66, go_sem, q1]) rfl ⟨rfl, (hb.setCell (by simp) _).setCell (by simp) _⟩
end Go.Proofs.Ytblpfjjnlfjloaa
