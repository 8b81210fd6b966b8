/-
  Dice: tallies of the program: at, atLeast, average, sumsKept, sumsOf.
-/
import Derived.Test.YtblpfjjnlfjloabC6f
import Derived.Test.YtblpfjjnlfjloabC2g
namespace Go.Proofs.Ytblpfjjnlfjloab
open Go.RowKit

/-- A tally of n numbers. -/
def TallyAt (w : World) (gr n : Nat) (K : Nat → Nat) : Prop := RowI w gr 3 n (fun i => (K i : Int))
def geS (K : Nat → Nat) (s n : Nat) : Nat := sumD (fun i => if s ≤ i then K i else 0) n
theorem geS_succ (K : Nat → Nat) {s k : Nat} (h : s ≤ k) : geS K s (k + 1) = geS K s k + K k := by unfold geS; show _ + (if s ≤ k then K k else 0) = _; rw [if_pos h]
theorem geS_start (K : Nat → Nat) (s : Nat) : ∀ n, n ≤ s → geS K s n = 0 := fun n hn => sumD_none _ _ fun _ _ => if_neg (by omega)
theorem geS_zero (K : Nat → Nat) (n : Nat) : geS K 0 n = sumD K n := sumD_same _ _ _ fun _ _ => if_pos (Nat.zero_le _)
theorem sumD_mono (K : Nat → Nat) (n : Nat) : ∀ m, sumD K n ≤ sumD K (n + m)
  | 0 => Nat.le_refl _
  | m + 1 => Nat.le_trans (sumD_mono K n m) (Nat.le_add_right _ _)
theorem geS_le (K : Nat → Nat) (s n : Nat) : geS K s n ≤ sumD K n := sumD_le _ _ _ fun _ _ => by split <;> omega

theorem tallyAt_any (gr n s : Nat) (K : Nat → Nat) (w : World) (h : TallyAt w gr n K) (hK : ∀ i, n ≤ i → K i = 0) :
    Calls Try.prog 46 #[.slice (some ⟨gr, 0, none⟩) n n, .int .i64 s] w fun e w' => e = .returned (.int .i64 (K s : Nat)) ∧ w = w' := by
  by_cases hlt : s < n
  · have c1 : w.cell? ⟨gr, s, none⟩ = some (.int .i64 (K s : Nat)) := RowI.cell h hlt
    have h1 : (s : Int) < (n : Int) := by omega
    clear hK
    go_enter Try.func46, Try.ntmps46
    go_wp2
    go_ret
    exact ⟨rfl, rfl⟩
  · rw [hK s (by omega)]
    have h1 : (n : Int) ≤ (s : Int) := by omega
    clear hK
    go_enter Try.func46, Try.ntmps46
    go_wp2
    go_ret
    exact ⟨rfl, rfl⟩

set_option maxRecDepth 100000 in
theorem atLeast_any (gr n s : Nat) (K : Nat → Nat) (w : World) (h : TallyAt w gr n K) (hn : n ≤ 97) (hs : s ≤ 200) (hb : sumD K n ≤ 1000000000) :
    Calls Try.prog 42 #[.slice (some ⟨gr, 0, none⟩) n n, .int .i64 s] w fun e w' => e = .returned (.int .i64 (geS K s n : Nat)) ∧ w = w' := by
  go_enter Try.func42, Try.ntmps42
  go_wp2
  go_loop [1, 5] (fun i v => ∃ k V : Nat, s ≤ k ∧ (k ≤ n ∨ k = s) ∧ i = .int .i64 k ∧ v = .int .i64 V ∧ V = geS K s k) (fun i _ => n - (intOf i).toNat)
  case atStart => exact ⟨s, 0, Nat.le_refl _, .inr rfl, rfl, rfl, (geS_start K s s (Nat.le_refl _)).symm⟩
  case round =>
    obtain ⟨k, V, h1, h2, rfl, rfl, hV⟩ := hrel
    by_cases hlt : k < n
    · have c1 : w.cell? ⟨gr, k, none⟩ = some (.int .i64 (K k : Nat)) := RowI.cell h hlt
      have e1 := geS_succ K h1
      have e2 := geS_le K s (k + 1)
      have e3 := sumD_mono K (k + 1) (n - (k + 1))
      rw [show k + 1 + (n - (k + 1)) = n by omega] at e3
      rw [← hV] at e1
      obtain ⟨a, ha⟩ : ∃ a, a = K k := ⟨_, rfl⟩
      rw [← ha] at c1 e1
      have hVb : V + a ≤ 1000000000 := by omega
      have E1 := Lib.hid e1
      clear e1 e2 e3 hV ha
      go_wp2
      go_round
      case rel => exact ⟨k + 1, V + a, by omega, .inl (by omega), by go_num, by go_num, E1.out.symm⟩
      case measure => simp [intOf]; omega
    · have e : geS K s n = V := by
        rw [hV]
        rcases h2 with h2 | h2
        · obtain rfl : k = n := by omega
          rfl
        · subst h2
          rw [geS_start K k n (by omega), geS_start K k k (Nat.le_refl _)]
      have E := Lib.hid e
      clear e hV h2
      go_wp2
      go_ret
      exact ⟨ret_int (by rw [E.out]), rfl⟩

def totS (K : Nat → Nat) (n : Nat) : Nat := sumD (fun i => i * K i) n
theorem totS_le (K : Nat → Nat) (n : Nat) (hn : n ≤ 97) : totS K n ≤ 97 * sumD K n := by
  unfold totS
  rw [← sumD_mul]
  exact sumD_le _ _ _ fun i hi => Nat.mul_le_mul_right _ (by omega)
set_option maxRecDepth 100000 in
theorem average_any (gr n : Nat) (K : Nat → Nat) (w : World) (h : TallyAt w gr n K) (hn : n ≤ 97) (hb : sumD K n ≤ 1000000000) (h1 : 1 ≤ sumD K n) :
    Calls Try.prog 47 #[.slice (some ⟨gr, 0, none⟩) n n] w fun e w' => e = .returned (.tuple #[.int .i64 (lowA (totS K n) (sumD K n)), .int .i64 (lowB (totS K n) (sumD K n))]) ∧ Below w.heap.size w w' := by
  go_enter Try.func47, Try.ntmps47
  go_wp2
  go_loop [4, 5, 6, 9] (fun v _ _ i => ∃ k V : Nat, k ≤ n ∧ i = .int .i64 k ∧ v = .int .i64 V ∧ V = totS K k) (fun _ _ _ i => n - (intOf i).toNat)
  case atStart => exact ⟨0, 0, Nat.zero_le _, rfl, rfl, rfl⟩
  case round =>
    obtain ⟨k, V, hk, rfl, rfl, hV⟩ := hrel
    by_cases hlt : k < n
    · have c1 : w.cell? ⟨gr, k, none⟩ = some (.int .i64 (K k : Nat)) := RowI.cell h hlt
      have e1 : totS K (k + 1) = totS K k + k * K k := rfl
      have e2 := totS_le K (k + 1) (by omega)
      have e3 := sumD_mono K (k + 1) (n - (k + 1))
      rw [show k + 1 + (n - (k + 1)) = n by omega] at e3
      rw [← hV] at e1
      obtain ⟨a, ha⟩ : ∃ a, a = K k := ⟨_, rfl⟩
      rw [← ha] at c1 e1
      obtain ⟨P, hP⟩ : ∃ P, P = k * a := ⟨_, rfl⟩
      rw [← hP] at e1
      have hPi : (k : Int) * (a : Int) = (P : Int) := by rw [hP]; push_cast; rfl
      have hVb : V + P ≤ 97000000000 := by omega
      have E1 := Lib.hid e1
      clear e1 e2 e3 hV ha hP
      go_wp2
      go_round
      case rel => exact ⟨k + 1, V + P, by omega, by go_num, by go_num, E1.out.symm⟩
      case measure => simp [intOf]; omega
    · obtain rfl : k = n := by omega
      have e2 := totS_le K k hn
      rw [← hV] at e2
      have HV := Lib.hid hV
      have hs : ∀ w, TallyAt w gr k K → Calls Try.prog 42 #[.slice (some ⟨gr, 0, none⟩) k k, .int .i64 0] w fun e w' => e = .returned (.int .i64 (sumD K k : Nat)) ∧ w = w' := fun w h => by
        rw [← geS_zero]
        exact atLeast_any gr k 0 K w h hn (by omega) hb
      have HS := Lib.hid hs
      have H := Lib.hid h
      obtain ⟨S, hS⟩ : ∃ S, S = sumD K k := ⟨_, rfl⟩
      rw [← hS] at hb h1 e2 HS
      have HSe := Lib.hid hS
      have hV9 : V ≤ 97000000000 := by omega
      clear e2 hS hs hV h
      go_wp2_with (first | (go_at_call 42; go_loud (refine (HS.out _ H.out).mono ?_; rintro e w1 ⟨rfl, rfl⟩)) | (go_at_call 41; go_loud (refine (lowest_any V S _ (by omega) (by omega) h1).mono ?_; rintro e w2 ⟨rfl, hx⟩)))
      go_ret2
      exact ⟨by rw [← HV.out, ← HSe.out]; rfl, hx⟩
end Go.Proofs.Ytblpfjjnlfjloab
