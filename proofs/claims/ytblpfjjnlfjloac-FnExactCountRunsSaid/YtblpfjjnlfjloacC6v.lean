/-
  Dice: diMost and diRun, the model's numbers of throws with equal dice and with runs.
-/
import Derived.Test.YtblpfjjnlfjloacC6j
import Derived.Test.YtblpfjjnlfjloacM46
namespace Go.Proofs.Ytblpfjjnlfjloac
open Go.RowKit

def mS (d f m k : Nat) : Nat := sumD (fun k => if k ≤ m then bin d k * mq (d - k) f m else 0) k
theorem mS_all (d f m : Nat) : mS d f m (d + 1) = mq d (f + 1) m := (mq_peel d f m).symm
theorem mS_le (d f m k : Nat) (h : k ≤ d + 1) : mS d f m k ≤ (f + 1) ^ d := by
  have h1 := mq_le d (f + 1) m
  rw [← mS_all] at h1
  refine Nat.le_trans ?_ h1
  unfold mS
  obtain ⟨j, hj⟩ : ∃ j, d + 1 = k + j := ⟨d + 1 - k, by omega⟩
  rw [hj, sumD_app]
  exact Nat.le_add_right _ _
theorem mS_far (d f m k : Nat) (h : m < k) (hk : k ≤ d + 1) : mS d f m k = mS d f m (d + 1) := by
  unfold mS
  obtain ⟨j, hj⟩ : ∃ j, d + 1 = k + j := ⟨d + 1 - k, by omega⟩
  rw [hj]
  exact (sumD_far _ k (fun i hi => if_neg (by omega)) j).symm

set_option maxRecDepth 100000 in
set_option maxHeartbeats 1000000 in
theorem diMost_any : ∀ (f d m : Nat) (w : World) (_ : d ≤ 8) (_ : f ≤ 12) (_ : m ≤ 8),
    Calls Try.prog 33 #[.int .i64 d, .int .i64 f, .int .i64 m] w fun e w' => e = .returned (.int .i64 (mq d f m : Nat)) ∧ w = w'
  | 0, d, m, w, hd, hf, hm => by
    rw [mq_zero]
    by_cases h : d = 0
    · subst h
      rw [if_pos rfl]
      go_enter Try.func33, Try.ntmps33
      go_wp2
      go_ret
      exact ⟨rfl, rfl⟩
    · have h0 : ((d : Int) == 0) = false := beq_eq_false_iff_ne.2 (by omega)
      rw [if_neg h]
      go_enter Try.func33, Try.ntmps33
      go_wp2
      go_ret
      exact ⟨rfl, rfl⟩
  | f + 1, d, m, w, hd, hf, hm => by
    have ih := diMost_any f
    obtain ⟨F, hF⟩ : ∃ F, F = f + 1 := ⟨_, rfl⟩
    have hF0 : ((F : Int) == 0) = false := beq_eq_false_iff_ne.2 (by omega)
    have hFi : (F : Int) - 1 = (f : Int) := by omega
    have hF9 : F ≤ 12 := by omega
    have hall := mS_all d f m
    have IH := Lib.hid ih; have HALL := Lib.hid hall; have HF := Lib.hid hF; have HFI := Lib.hid hFi
    rw [← hF]
    clear ih hall hF hFi
    go_enter Try.func33, Try.ntmps33
    go_wp2_with fail
    go_loop [7, 8] (fun v i => ∃ k V : Nat, k ≤ d + 1 ∧ k ≤ m + 1 ∧ i = .int .i64 k ∧ v = .int .i64 V ∧ V = mS d f m k) (fun _ i => d + 1 - (intOf i).toNat)
    case atStart => exact ⟨0, 0, Nat.zero_le _, Nat.zero_le _, rfl, rfl, rfl⟩
    case round =>
      obtain ⟨k, V, hk1, hk2, rfl, rfl, hV⟩ := hrel
      have hfin : m < k ∨ d < k → mq d F m = V := fun h => by
        rw [HF.out, ← HALL.out, hV]
        rcases h with h | h
        · exact (mS_far d f m k h hk1).symm
        · obtain rfl : k = d + 1 := by omega
          rfl
      have HFIN := Lib.hid hfin
      clear hfin
      by_cases hkm : k ≤ m
      · have h1 : (k : Int) ≤ (m : Int) := by omega
        by_cases hkd : k ≤ d
        · have h2 : (k : Int) ≤ (d : Int) := by omega
          have hst : mS d f m (k + 1) = V + bin d k * mq (d - k) f m := by rw [hV]; show _ + (if k ≤ m then _ else 0) = _; rw [if_pos hkm]; rfl
          have hle := mS_le d f m (k + 1) (by omega)
          have hp := pow_small12 (show f + 1 ≤ 12 by omega) hd
          have hq9 := Nat.le_trans (mq_le (d - k) f m) (pow_small12 (show f ≤ 12 by omega) (show d - k ≤ 8 by omega))
          have hc := fun w => diChoose_any d k w (by omega) hkd
          have hc9 := bin_small (show d ≤ 12 by omega) (k := k)
          have hr := fun w => IH.out (d - k) m w (by omega) (by omega) hm
          obtain ⟨q, hq⟩ : ∃ q, q = mq (d - k) f m := ⟨_, rfl⟩
          obtain ⟨C, hC⟩ : ∃ C, C = bin d k := ⟨_, rfl⟩
          rw [← hq] at hst hr hq9
          rw [← hC] at hst hc hc9
          obtain ⟨Q, hQ⟩ : ∃ Q, Q = C * q := ⟨_, rfl⟩
          rw [← hQ] at hst
          have hQi : (C : Int) * (q : Int) = (Q : Int) := by rw [hQ]; push_cast; rfl
          have hVQ : V + Q ≤ 429981696 := by omega
          have hdk : (d : Int) - (k : Int) = ((d - k : Nat) : Int) := by omega
          have hfi := HFI.out
          have HC := Lib.hid hc; have HR := Lib.hid hr; have HST := Lib.hid hst
          clear hV hst hle hp hc hr hq hC hQ
          go_wp2_with fail
          refine (HC.out _).mono ?_
          rintro e w1 ⟨rfl, rfl⟩
          go_wp2_with fail
          refine (HR.out _).mono ?_
          rintro e w1 ⟨rfl, rfl⟩
          go_wp2
          go_round
          case rel => exact ⟨k + 1, V + Q, by omega, by omega, by go_num, by go_num, HST.out.symm⟩
          case measure => simp [intOf]; omega
        · have h2 : ¬ (k : Int) ≤ (d : Int) := by omega
          clear hV
          go_wp2
          go_ret
          exact ⟨ret_int (by rw [HFIN.out (.inr (by omega))]), rfl⟩
      · have h1 : ¬ (k : Int) ≤ (m : Int) := by omega
        clear hV
        go_wp2
        go_ret
        exact ⟨ret_int (by rw [HFIN.out (.inl (by omega))]), rfl⟩

def rS (d f b run k : Nat) : Nat := rq d f 0 run + sumD (fun k => bin d (k + 1) * rq (d - (k + 1)) f (b + 1) run) k
theorem rS_le (d f b run k : Nat) (h : k ≤ d) (hb : b ≠ run) : rS d f b run k ≤ (f + 1) ^ d := by
  have h1 := rq_le d (f + 1) b run
  rw [rq_peel d f b run hb] at h1
  refine Nat.le_trans ?_ h1
  unfold rS
  obtain ⟨j, hj⟩ : ∃ j, d = k + j := ⟨d - k, by omega⟩
  refine Nat.add_le_add_left ?_ _
  conv => rhs; rw [hj, sumD_app]
  rw [← hj]
  exact Nat.le_add_right _ _
set_option maxRecDepth 100000 in
set_option maxHeartbeats 1000000 in
theorem diRun_any : ∀ (f d b run : Nat) (w : World) (_ : d ≤ 8) (_ : f ≤ 12) (_ : b ≤ run) (_ : run ≤ 12) (_ : 1 ≤ run),
    Calls Try.prog 36 #[.int .i64 d, .int .i64 f, .int .i64 b, .int .i64 run] w fun e w' => e = .returned (.int .i64 (rq d f b run : Nat)) ∧ w = w'
  | f, d, b, run, w, hd, hf, hb, hr, hr1 => by
    by_cases he : b = run
    · subst he
      have hp := fun w => diPower_any f d w hf hd
      rw [rq_done]
      obtain ⟨P, hP⟩ : ∃ P, P = f ^ d := ⟨_, rfl⟩
      rw [← hP] at hp
      rw [← hP]
      have HP := Lib.hid hp
      clear hp hP
      go_enter Try.func36, Try.ntmps36
      go_wp2_with fail
      refine (HP.out _).mono ?_
      rintro e w1 ⟨rfl, rfl⟩
      go_wp2
      go_ret
      exact ⟨rfl, rfl⟩
    · have hbr : ((b : Int) == (run : Int)) = false := beq_eq_false_iff_ne.2 (by omega)
      match f, hf with
      | 0, _ =>
        rw [rq_zero d b run he]
        clear he
        go_enter Try.func36, Try.ntmps36
        go_wp2
        go_ret
        exact ⟨rfl, rfl⟩
      | f + 1, hf =>
        have ih := diRun_any f
        obtain ⟨F, hF⟩ : ∃ F, F = f + 1 := ⟨_, rfl⟩
        have hF0 : ((F : Int) == 0) = false := beq_eq_false_iff_ne.2 (by omega)
        have hFi : (F : Int) - 1 = (f : Int) := by omega
        have hF9 : F ≤ 12 := by omega
        have hall := rq_peel d f b run he
        have h0 := fun w => ih d 0 run w hd (by omega) (Nat.zero_le _) hr hr1
        have hr0 := rS_le d f b run 0 (Nat.zero_le _) he
        have HRLE := Lib.hid (fun k h => rS_le d f b run k h he)
        obtain ⟨Z, hZ⟩ : ∃ Z, Z = rq d f 0 run := ⟨_, rfl⟩
        have h0' : ∀ w, Calls Try.prog 36 #[.int .i64 d, .int .i64 f, .int .i64 0, .int .i64 run] w fun e w' => e = .returned (.int .i64 (Z : Nat)) ∧ w = w' := by rw [hZ]; exact h0
        have hz0 : Z = rS d f b run 0 := by rw [hZ]; rfl
        have IH := Lib.hid ih; have HALL := Lib.hid hall; have HF := Lib.hid hF; have HFI := Lib.hid hFi; have H0 := Lib.hid h0'; have HZ := Lib.hid hz0; have HE := Lib.hid he
        have hfi := HFI.out
        rw [← hF]
        clear ih hall hF hFi h0 h0' hZ hz0 hr0 he
        go_enter Try.func36, Try.ntmps36
        go_wp2_with fail
        refine (H0.out _).mono ?_
        rintro e w1 ⟨rfl, rfl⟩
        go_wp2_with fail
        go_loop [9, 10] (fun v i => ∃ k V : Nat, k ≤ d ∧ i = .int .i64 ((k : Int) + 1) ∧ v = .int .i64 V ∧ V = rS d f b run k) (fun _ i => d + 1 - (intOf i).toNat)
        case atStart => exact ⟨0, Z, Nat.zero_le _, rfl, rfl, HZ.out⟩
        case round =>
          obtain ⟨k, V, hk, rfl, rfl, hV⟩ := hrel
          by_cases hkd : k < d
          · have h2 : (k : Int) + 1 ≤ (d : Int) := by omega
            have hst : rS d f b run (k + 1) = V + bin d (k + 1) * rq (d - (k + 1)) f (b + 1) run := by rw [hV]; unfold rS; rw [Nat.add_assoc]; rfl
            have hle := HRLE.out (k + 1) (by omega)
            have hp := pow_small12 (show f + 1 ≤ 12 by omega) hd
            have hq9 := Nat.le_trans (rq_le (d - (k + 1)) f (b + 1) run) (pow_small12 (show f ≤ 12 by omega) (show d - (k + 1) ≤ 8 by omega))
            have hc := fun w => diChoose_any d (k + 1) w (by omega) (by omega)
            have hc9 := bin_small (show d ≤ 12 by omega) (k := k + 1)
            have hr2 := fun w => IH.out (d - (k + 1)) (b + 1) run w (by omega) (by omega) (by have := HE.out; omega) hr hr1
            obtain ⟨q, hq⟩ : ∃ q, q = rq (d - (k + 1)) f (b + 1) run := ⟨_, rfl⟩
            obtain ⟨C, hC⟩ : ∃ C, C = bin d (k + 1) := ⟨_, rfl⟩
            rw [← hq] at hst hr2 hq9
            rw [← hC] at hst hc hc9
            obtain ⟨Q, hQ⟩ : ∃ Q, Q = C * q := ⟨_, rfl⟩
            rw [← hQ] at hst
            have hQi : (C : Int) * (q : Int) = (Q : Int) := by rw [hQ]; push_cast; rfl
            have hVQ : V + Q ≤ 429981696 := by omega
            have hdk : (d : Int) - ((k : Int) + 1) = ((d - (k + 1) : Nat) : Int) := by omega
            have hc' : ∀ w, Calls Try.prog 29 #[.int .i64 d, .int .i64 ((k : Int) + 1)] w fun e w' => e = .returned (.int .i64 (C : Nat)) ∧ w = w' := hc
            have hr2' : ∀ w, Calls Try.prog 36 #[.int .i64 (d - (k + 1) : Nat), .int .i64 f, .int .i64 ((b : Int) + 1), .int .i64 run] w fun e w' => e = .returned (.int .i64 (q : Nat)) ∧ w = w' := hr2
            have HC := Lib.hid hc'; have HR := Lib.hid hr2'; have HST := Lib.hid hst
            clear hV hst hle hp hc hr2 hc' hr2' hq hC hQ
            go_wp2_with fail
            refine (HC.out _).mono ?_
            rintro e w1 ⟨rfl, rfl⟩
            go_wp2_with fail
            refine (HR.out _).mono ?_
            rintro e w1 ⟨rfl, rfl⟩
            go_wp2
            go_round
            case rel => exact ⟨k + 1, V + Q, by omega, by go_num, by go_num, HST.out.symm⟩
            case measure => simp [intOf]; omega
          · have h2 : ¬ (k : Int) + 1 ≤ (d : Int) := by omega
            obtain rfl : k = d := by omega
            have hfin : rq k F b run = V := by rw [HF.out, HALL.out, hV]; rfl
            have HFIN := Lib.hid hfin
            clear hV hfin
            go_wp2
            go_ret
            exact ⟨ret_int (by rw [HFIN.out]), rfl⟩
end Go.Proofs.Ytblpfjjnlfjloac
