/- Several texts, one behind the other: C6v C6w. -/
import Derived.Test.YtnohpclaccaijabZdam
import Derived.Test.YtnohpclaccaijabZdaj
import Derived.Test.YtnohpclaccaijabZdal

namespace Go.Proofs.Ytnohpclaccaijab
open Go.RowKit

def mS (d f m k : Nat) : Nat := sumD (fun k => if k ≤ m then bin d k * mq (d - k) f m else 0) k
theorem mS_all (d f m : Nat) : mS d f m (d + 1) = mq d (f + 1) m := (mq_peel d f m).symm
theorem mS_le (d f m k : Nat) (h : k ≤ d + 1) : mS d f m k ≤ (f + 1) ^ d := by
  have h1 := mq_le d (f + 1) m
  rw [← mS_all] at h1
  refine Nat.le_trans ?_ h1
  unfold mS
  obtain ⟨j, hj⟩ : ∃ j, d + 1 = k + j := ⟨d + 1 - k, by omega⟩
  rw [hj, sumD_app]
  exact Nat.le_add_right _ _
theorem mS_far (d f m k : Nat) (h : m < k) (hk : k ≤ d + 1) : mS d f m k = mS d f m (d + 1) := by
  unfold mS
  obtain ⟨j, hj⟩ : ∃ j, d + 1 = k + j := ⟨d + 1 - k, by omega⟩
  rw [hj]
  exact (sumD_far _ k (fun i hi => if_neg (by omega)) j).symm

set_option maxRecDepth 100000 in
set_option maxHeartbeats 1000000 in
theorem diMost_any : ∀ (f d m : Nat) (w : World) (_ : d ≤ 8) (_ : f ≤ 12) (_ : m ≤ 8),
    Calls Try.prog 81 #[.int .i64 d, .int .i64 f, .int .i64 m] w fun e w' => e = .returned (.int .i64 (mq d f m : Nat)) ∧ w = w'
  | 0, d, m, w, hd, hf, hm => by
    rw [mq_zero]
    by_cases h : d = 0
    · subst h
      rw [if_pos rfl]
      go_enter Try.func81, Try.ntmps81
      go_wp2
      go_ret
      exact ⟨rfl, rfl⟩
    · have h0 : ((d : Int) == 0) = false := beq_eq_false_iff_ne.2 (by omega)
      rw [if_neg h]
      go_enter Try.func81, Try.ntmps81
      go_wp2
      go_ret
      exact ⟨rfl, rfl⟩
  | f + 1, d, m, w, hd, hf, hm => by
    have ih := diMost_any f
    obtain ⟨F, hF⟩ : ∃ F, F = f + 1 := ⟨_, rfl⟩
    have hF0 : ((F : Int) == 0) = false := beq_eq_false_iff_ne.2 (by omega)
    have hFi : (F : Int) - 1 = (f : Int) := by omega
    have hF9 : F ≤ 12 := by omega
    have hall := mS_all d f m
    have IH := Lib.hid ih; have HALL := Lib.hid hall; have HF := Lib.hid hF; have HFI := Lib.hid hFi
    rw [← hF]
    clear ih hall hF hFi
    go_enter Try.func81, Try.ntmps81
    go_wp2_with fail
    go_loop [7, 8] (fun v i => ∃ k V : Nat, k ≤ d + 1 ∧ k ≤ m + 1 ∧ i = .int .i64 k ∧ v = .int .i64 V ∧ V = mS d f m k) (fun _ i => d + 1 - (intOf i).toNat)
    case atStart => exact ⟨0, 0, Nat.zero_le _, Nat.zero_le _, rfl, rfl, rfl⟩
    case round =>
      obtain ⟨k, V, hk1, hk2, rfl, rfl, hV⟩ := hrel
      have hfin : m < k ∨ d < k → mq d F m = V := fun h => by
        rw [HF.out, ← HALL.out, hV]
        rcases h with h | h
        · exact (mS_far d f m k h hk1).symm
        · obtain rfl : k = d + 1 := by omega
          rfl
      have HFIN := Lib.hid hfin
      clear hfin
      by_cases hkm : k ≤ m
      · have h1 : (k : Int) ≤ (m : Int) := by omega
        by_cases hkd : k ≤ d
        · have h2 : (k : Int) ≤ (d : Int) := by omega
          have hst : mS d f m (k + 1) = V + bin d k * mq (d - k) f m := by rw [hV]; show _ + (if k ≤ m then _ else 0) = _; rw [if_pos hkm]; rfl
          have hle := mS_le d f m (k + 1) (by omega)
          have hp := pow_small12 (show f + 1 ≤ 12 by omega) hd
          have hq9 := Nat.le_trans (mq_le (d - k) f m) (pow_small12 (show f ≤ 12 by omega) (show d - k ≤ 8 by omega))
          have hc := fun w => diChoose_any d k w (by omega) hkd
          have hc9 := bin_small (show d ≤ 12 by omega) (k := k)
          have hr := fun w => IH.out (d - k) m w (by omega) (by omega) hm
          obtain ⟨q, hq⟩ : ∃ q, q = mq (d - k) f m := ⟨_, rfl⟩
          obtain ⟨C, hC⟩ : ∃ C, C = bin d k := ⟨_, rfl⟩
          rw [← hq] at hst hr hq9
          rw [← hC] at hst hc hc9
          obtain ⟨Q, hQ⟩ : ∃ Q, Q = C * q := ⟨_, rfl⟩
          rw [← hQ] at hst
          have hQi : (C : Int) * (q : Int) = (Q : Int) := by rw [hQ]; push_cast; rfl
          have hVQ : V + Q ≤ 429981696 := by omega
          have hdk : (d : Int) - (k : Int) = ((d - k : Nat) : Int) := by omega
          have hfi := HFI.out
          have HC := Lib.hid hc; have HR := Lib.hid hr; have HST := Lib.hid hst
          clear hV hst hle hp hc hr hq hC hQ
          go_wp2_with fail
          refine (HC.out _).mono ?_
          rintro e w1 ⟨rfl, rfl⟩
          go_wp2_with fail
          refine (HR.out _).mono ?_
          rintro e w1 ⟨rfl, rfl⟩
          go_wp2
          go_round
          case rel => exact ⟨k + 1, V + Q, by omega, by omega, by go_num, by go_num, HST.out.symm⟩
          case measure => simp [intOf]; omega
        · have h2 : ¬ (k : Int) ≤ (d : Int) := by omega
          clear hV
          go_wp2
          go_ret
          exact ⟨ret_int (by rw [HFIN.out (.inr (by omega))]), rfl⟩
      · have h1 : ¬ (k : Int) ≤ (m : Int) := by omega
        clear hV
        go_wp2
        go_ret
        exact ⟨ret_int (by rw [HFIN.out (.inl (by omega))]), rfl⟩

def rS (d f b run k : Nat) : Nat := rq d f 0 run + sumD (fun k => bin d (k + 1) * rq (d - (k + 1)) f (b + 1) run) k
theorem rS_le (d f b run k : Nat) (h : k ≤ d) (hb : b ≠ run) : rS d f b run k ≤ (f + 1) ^ d := by
  have h1 := rq_le d (f + 1) b run
  rw [rq_peel d f b run hb] at h1
  refine Nat.le_trans ?_ h1
  unfold rS
  obtain ⟨j, hj⟩ : ∃ j, d = k + j := ⟨d - k, by omega⟩
  refine Nat.add_le_add_left ?_ _
  conv => rhs; rw [hj, sumD_app]
  rw [← hj]
  exact Nat.le_add_right _ _
set_option maxRecDepth 100000 in
set_option maxHeartbeats 1000000 in
theorem diRun_any : ∀ (f d b run : Nat) (w : World) (_ : d ≤ 8) (_ : f ≤ 12) (_ : b ≤ run) (_ : run ≤ 12) (_ : 1 ≤ run),
    Calls Try.prog 84 #[.int .i64 d, .int .i64 f, .int .i64 b, .int .i64 run] w fun e w' => e = .returned (.int .i64 (rq d f b run : Nat)) ∧ w = w'
  | f, d, b, run, w, hd, hf, hb, hr, hr1 => by
    by_cases he : b = run
    · subst he
      have hp := fun w => diPower_any f d w hf hd
      rw [rq_done]
      obtain ⟨P, hP⟩ : ∃ P, P = f ^ d := ⟨_, rfl⟩
      rw [← hP] at hp
      rw [← hP]
      have HP := Lib.hid hp
      clear hp hP
      go_enter Try.func84, Try.ntmps84
      go_wp2_with fail
      refine (HP.out _).mono ?_
      rintro e w1 ⟨rfl, rfl⟩
      go_wp2
      go_ret
      exact ⟨rfl, rfl⟩
    · have hbr : ((b : Int) == (run : Int)) = false := beq_eq_false_iff_ne.2 (by omega)
      match f, hf with
      | 0, _ =>
        rw [rq_zero d b run he]
        clear he
        go_enter Try.func84, Try.ntmps84
        go_wp2
        go_ret
        exact ⟨rfl, rfl⟩
      | f + 1, hf =>
        have ih := diRun_any f
        obtain ⟨F, hF⟩ : ∃ F, F = f + 1 := ⟨_, rfl⟩
        have hF0 : ((F : Int) == 0) = false := beq_eq_false_iff_ne.2 (by omega)
        have hFi : (F : Int) - 1 = (f : Int) := by omega
        have hF9 : F ≤ 12 := by omega
        have hall := rq_peel d f b run he
        have h0 := fun w => ih d 0 run w hd (by omega) (Nat.zero_le _) hr hr1
        have hr0 := rS_le d f b run 0 (Nat.zero_le _) he
        have HRLE := Lib.hid (fun k h => rS_le d f b run k h he)
        obtain ⟨Z, hZ⟩ : ∃ Z, Z = rq d f 0 run := ⟨_, rfl⟩
        have h0' : ∀ w, Calls Try.prog 84 #[.int .i64 d, .int .i64 f, .int .i64 0, .int .i64 run] w fun e w' => e = .returned (.int .i64 (Z : Nat)) ∧ w = w' := by rw [hZ]; exact h0
        have hz0 : Z = rS d f b run 0 := by rw [hZ]; rfl
        have IH := Lib.hid ih; have HALL := Lib.hid hall; have HF := Lib.hid hF; have HFI := Lib.hid hFi; have H0 := Lib.hid h0'; have HZ := Lib.hid hz0; have HE := Lib.hid he
        have hfi := HFI.out
        rw [← hF]
        clear ih hall hF hFi h0 h0' hZ hz0 hr0 he
        go_enter Try.func84, Try.ntmps84
        go_wp2_with fail
        refine (H0.out _).mono ?_
        rintro e w1 ⟨rfl, rfl⟩
        go_wp2_with fail
        go_loop [9, 10] (fun v i => ∃ k V : Nat, k ≤ d ∧ i = .int .i64 ((k : Int) + 1) ∧ v = .int .i64 V ∧ V = rS d f b run k) (fun _ i => d + 1 - (intOf i).toNat)
        case atStart => exact ⟨0, Z, Nat.zero_le _, rfl, rfl, HZ.out⟩
        case round =>
          obtain ⟨k, V, hk, rfl, rfl, hV⟩ := hrel
          by_cases hkd : k < d
          · have h2 : (k : Int) + 1 ≤ (d : Int) := by omega
            have hst : rS d f b run (k + 1) = V + bin d (k + 1) * rq (d - (k + 1)) f (b + 1) run := by rw [hV]; unfold rS; rw [Nat.add_assoc]; rfl
            have hle := HRLE.out (k + 1) (by omega)
            have hp := pow_small12 (show f + 1 ≤ 12 by omega) hd
            have hq9 := Nat.le_trans (rq_le (d - (k + 1)) f (b + 1) run) (pow_small12 (show f ≤ 12 by omega) (show d - (k + 1) ≤ 8 by omega))
            have hc := fun w => diChoose_any d (k + 1) w (by omega) (by omega)
            have hc9 := bin_small (show d ≤ 12 by omega) (k := k + 1)
            have hr2 := fun w => IH.out (d - (k + 1)) (b + 1) run w (by omega) (by omega) (by have := HE.out; omega) hr hr1
            obtain ⟨q, hq⟩ : ∃ q, q = rq (d - (k + 1)) f (b + 1) run := ⟨_, rfl⟩
            obtain ⟨C, hC⟩ : ∃ C, C = bin d (k + 1) := ⟨_, rfl⟩
            rw [← hq] at hst hr2 hq9
            rw [← hC] at hst hc hc9
            obtain ⟨Q, hQ⟩ : ∃ Q, Q = C * q := ⟨_, rfl⟩
            rw [← hQ] at hst
            have hQi : (C : Int) * (q : Int) = (Q : Int) := by rw [hQ]; push_cast; rfl
            have hVQ : V + Q ≤ 429981696 := by omega
            have hdk : (d : Int) - ((k : Int) + 1) = ((d - (k + 1) : Nat) : Int) := by omega
            have hc' : ∀ w, Calls Try.prog 78 #[.int .i64 d, .int .i64 ((k : Int) + 1)] w fun e w' => e = .returned (.int .i64 (C : Nat)) ∧ w = w' := hc
            have hr2' : ∀ w, Calls Try.prog 84 #[.int .i64 (d - (k + 1) : Nat), .int .i64 f, .int .i64 ((b : Int) + 1), .int .i64 run] w fun e w' => e = .returned (.int .i64 (q : Nat)) ∧ w = w' := hr2
            have HC := Lib.hid hc'; have HR := Lib.hid hr2'; have HST := Lib.hid hst
            clear hV hst hle hp hc hr2 hc' hr2' hq hC hQ
            go_wp2_with fail
            refine (HC.out _).mono ?_
            rintro e w1 ⟨rfl, rfl⟩
            go_wp2_with fail
            refine (HR.out _).mono ?_
            rintro e w1 ⟨rfl, rfl⟩
            go_wp2
            go_round
            case rel => exact ⟨k + 1, V + Q, by omega, by go_num, by go_num, HST.out.symm⟩
            case measure => simp [intOf]; omega
          · have h2 : ¬ (k : Int) + 1 ≤ (d : Int) := by omega
            obtain rfl : k = d := by omega
            have hfin : rq k F b run = V := by rw [HF.out, HALL.out, hV]; rfl
            have HFIN := Lib.hid hfin
            clear hV hfin
            go_wp2
            go_ret
            exact ⟨ret_int (by rw [HFIN.out]), rfl⟩
end Go.Proofs.Ytnohpclaccaijab

namespace Go.Proofs.Ytnohpclaccaijab
open Go.RowKit

theorem same_math (d f a : Nat) (h1 : 1 ≤ a) : W d f (fun t => is (mostN t f == a)) + mq d f (a - 1) = mq d f a := by
  obtain ⟨b, rfl⟩ : ∃ b, a = b + 1 := ⟨a - 1, by omega⟩
  exact mq_same d f b
theorem runs_math (d f a : Nat) (h1 : 1 ≤ a) : W d f (fun t => is (decide (a ≤ lonN t f))) = rq d f 0 a :=
  W_same _ _ _ _ fun t _ => by rw [rnB_lon t a f h1]
theorem each_math (d f : Nat) (h1 : 1 ≤ f) : W d f (fun t => is (decide (f ≤ lonN t f))) = sj f d := by
  rw [← sj_W]
  exact W_same _ _ _ _ fun t _ => by rw [each_lon t f h1]

set_option maxRecDepth 100000 in
theorem specCountSame_yes (d f a : Nat) (w : World) (hd1 : 1 ≤ d) (hd : d ≤ 8) (hf1 : 1 ≤ f) (hf : f ≤ 12) (ha1 : 1 ≤ a) (ha : a ≤ 8) (N : Nat) (hN : N + mq d f (a - 1) = mq d f a) :
    Calls Try.prog 43 #[.int .i64 d, .int .i64 f, .int .i64 a] w fun e w' => e = .returned (.tuple #[.int .i64 N, .bool true]) ∧ Below w.heap.size w w' := by
  have hc : cupB (d : Int) (f : Int) = true := cupB_iff.2 (by omega)
  have hb : inB (a : Int) 1 8 = true := inB_iff.2 (by omega)
  have hp1 := fun w => diMost_any f d a w hd hf ha
  have hp2 := fun w => diMost_any f d (a - 1) w hd hf (by omega)
  have hs := Nat.le_trans (mq_le d f a) (pow_small12 hf hd)
  have hm : (a : Int) - 1 = ((a - 1 : Nat) : Int) := by omega
  obtain ⟨P, hP⟩ : ∃ P, P = mq d f a := ⟨_, rfl⟩
  obtain ⟨Q, hQ⟩ : ∃ Q, Q = mq d f (a - 1) := ⟨_, rfl⟩
  rw [← hP] at hp1 hN hs
  rw [← hQ] at hp2 hN
  have hPQ : (P : Int) - (Q : Int) = (N : Int) := by omega
  have hN9 : N ≤ 429981696 := by omega
  have HC := Lib.hid hc; have HB := Lib.hid hb; have HP1 := Lib.hid hp1; have HP2 := Lib.hid hp2
  clear hc hb hp1 hp2 hP hQ hN
  go_enter Try.func43, Try.ntmps43
  go_wp2_with fail
  refine (diAsked_any _ _ _).mono ?_
  rintro e w1 ⟨rfl, rfl⟩
  rw [HC.out]
  go_wp2_with fail
  refine (l1In_d _ _ _ _).mono ?_
  rintro e w1 ⟨rfl, rfl⟩
  rw [HB.out]
  go_wp2_with fail
  refine (HP1.out _).mono ?_
  rintro e w1 ⟨rfl, rfl⟩
  go_wp2_with fail
  refine (HP2.out _).mono ?_
  rintro e w1 ⟨rfl, rfl⟩
  go_wp2
  go_ret2
  exact ⟨rfl, Below.refl _ _⟩
set_option maxRecDepth 100000 in
theorem specCountSame_no (d f a : Int) (w : World) (h : cupB d f = false ∨ (a < 1 ∨ 8 < a)) :
    Calls Try.prog 43 #[.int .i64 d, .int .i64 f, .int .i64 a] w fun e w' => e = .returned (.tuple #[.int .i64 0, .bool false]) ∧ Below w.heap.size w w' := by
  cases hc : cupB d f
  · have HC := Lib.hid hc
    clear hc h
    go_enter Try.func43, Try.ntmps43
    go_wp2_with fail
    refine (diAsked_any _ _ _).mono ?_
    rintro e w1 ⟨rfl, rfl⟩
    rw [HC.out]
    go_wp2
    go_ret2
    exact ⟨rfl, Below.refl _ _⟩
  · have hb : inB a 1 8 = false := by
      rw [inB_false]
      rcases h with h | h
      · rw [hc] at h; cases h
      · exact h
    have HC := Lib.hid hc; have HB := Lib.hid hb
    clear hc hb h
    go_enter Try.func43, Try.ntmps43
    go_wp2_with fail
    refine (diAsked_any _ _ _).mono ?_
    rintro e w1 ⟨rfl, rfl⟩
    rw [HC.out]
    go_wp2_with fail
    refine (l1In_d _ _ _ _).mono ?_
    rintro e w1 ⟨rfl, rfl⟩
    rw [HB.out]
    go_wp2
    go_ret2
    exact ⟨rfl, Below.refl _ _⟩
theorem countSame_both (d f a : Int) : ∃ (x : Int) (ok : Bool),
    (∀ w, Calls Try.prog 43 #[.int .i64 d, .int .i64 f, .int .i64 a] w fun e w' => e = .returned (.tuple #[.int .i64 x, .bool ok]) ∧ Below w.heap.size w w') ∧
    (∀ w, Calls Try.prog 42 #[.int .i64 d, .int .i64 f, .int .i64 a] w fun e w' => e = .returned (.tuple #[.int .i64 x, .bool ok]) ∧ Below w.heap.size w w') := by
  by_cases h : cupB d f = true ∧ (1 ≤ a ∧ a ≤ 8)
  · obtain ⟨hc, h5⟩ := h
    obtain ⟨m, n, rfl, rfl, h1, h2, h3, h4⟩ := cupB_nat hc
    obtain ⟨q, rfl⟩ : ∃ q : Nat, a = q := ⟨a.toNat, by omega⟩
    exact ⟨_, _, fun w => specCountSame_yes m n q w h1 h2 h3 h4 (by omega) (by omega) _ (same_math m n q (by omega)), fun w => implCountSame_yes m n q w h1 h2 h3 h4 (by omega) (by omega)⟩
  · have h' : cupB d f = false ∨ (a < 1 ∨ 8 < a) := by
      cases h1 : cupB d f
      · exact .inl rfl
      · right
        have : ¬ (1 ≤ a ∧ a ≤ 8) := fun e => h ⟨h1, e⟩
        omega
    exact ⟨0, false, fun w => specCountSame_no d f a w h', fun w => implCountSame_no d f a w h'⟩

set_option maxRecDepth 100000 in
theorem specCountRuns_yes (d f a : Nat) (w : World) (hd1 : 1 ≤ d) (hd : d ≤ 8) (hf1 : 1 ≤ f) (hf : f ≤ 12) (ha1 : 1 ≤ a) (ha : a ≤ 12) (N : Nat) (hN : N = rq d f 0 a) :
    Calls Try.prog 46 #[.int .i64 d, .int .i64 f, .int .i64 a] w fun e w' => e = .returned (.tuple #[.int .i64 N, .bool true]) ∧ Below w.heap.size w w' := by
  have hc : cupB (d : Int) (f : Int) = true := cupB_iff.2 (by omega)
  have hb : inB (a : Int) 1 12 = true := inB_iff.2 (by omega)
  have hp1 : ∀ w, Calls Try.prog 84 #[.int .i64 d, .int .i64 f, .int .i64 0, .int .i64 a] w fun e w' => e = .returned (.int .i64 (N : Nat)) ∧ w = w' := fun w => by rw [hN]; exact diRun_any f d 0 a w hd hf (Nat.zero_le _) ha ha1
  have HC := Lib.hid hc; have HB := Lib.hid hb; have HP1 := Lib.hid hp1
  clear hc hb hp1 hN
  go_enter Try.func46, Try.ntmps46
  go_wp2_with fail
  refine (diAsked_any _ _ _).mono ?_
  rintro e w1 ⟨rfl, rfl⟩
  rw [HC.out]
  go_wp2_with fail
  refine (l1In_d _ _ _ _).mono ?_
  rintro e w1 ⟨rfl, rfl⟩
  rw [HB.out]
  go_wp2_with fail
  refine (HP1.out _).mono ?_
  rintro e w1 ⟨rfl, rfl⟩
  go_wp2
  go_ret2
  exact ⟨rfl, Below.refl _ _⟩
set_option maxRecDepth 100000 in
theorem specCountRuns_no (d f a : Int) (w : World) (h : cupB d f = false ∨ (a < 1 ∨ 12 < a)) :
    Calls Try.prog 46 #[.int .i64 d, .int .i64 f, .int .i64 a] w fun e w' => e = .returned (.tuple #[.int .i64 0, .bool false]) ∧ Below w.heap.size w w' := by
  cases hc : cupB d f
  · have HC := Lib.hid hc
    clear hc h
    go_enter Try.func46, Try.ntmps46
    go_wp2_with fail
    refine (diAsked_any _ _ _).mono ?_
    rintro e w1 ⟨rfl, rfl⟩
    rw [HC.out]
    go_wp2
    go_ret2
    exact ⟨rfl, Below.refl _ _⟩
  · have hb : inB a 1 12 = false := by
      rw [inB_false]
      rcases h with h | h
      · rw [hc] at h; cases h
      · exact h
    have HC := Lib.hid hc; have HB := Lib.hid hb
    clear hc hb h
    go_enter Try.func46, Try.ntmps46
    go_wp2_with fail
    refine (diAsked_any _ _ _).mono ?_
    rintro e w1 ⟨rfl, rfl⟩
    rw [HC.out]
    go_wp2_with fail
    refine (l1In_d _ _ _ _).mono ?_
    rintro e w1 ⟨rfl, rfl⟩
    rw [HB.out]
    go_wp2
    go_ret2
    exact ⟨rfl, Below.refl _ _⟩
theorem countRuns_both (d f a : Int) : ∃ (x : Int) (ok : Bool),
    (∀ w, Calls Try.prog 46 #[.int .i64 d, .int .i64 f, .int .i64 a] w fun e w' => e = .returned (.tuple #[.int .i64 x, .bool ok]) ∧ Below w.heap.size w w') ∧
    (∀ w, Calls Try.prog 45 #[.int .i64 d, .int .i64 f, .int .i64 a] w fun e w' => e = .returned (.tuple #[.int .i64 x, .bool ok]) ∧ Below w.heap.size w w') := by
  by_cases h : cupB d f = true ∧ (1 ≤ a ∧ a ≤ 12)
  · obtain ⟨hc, h5⟩ := h
    obtain ⟨m, n, rfl, rfl, h1, h2, h3, h4⟩ := cupB_nat hc
    obtain ⟨q, rfl⟩ : ∃ q : Nat, a = q := ⟨a.toNat, by omega⟩
    exact ⟨_, _, fun w => specCountRuns_yes m n q w h1 h2 h3 h4 (by omega) (by omega) _ (runs_math m n q (by omega)), fun w => implCountRuns_yes m n q w h1 h2 h3 h4 (by omega) (by omega)⟩
  · have h' : cupB d f = false ∨ (a < 1 ∨ 12 < a) := by
      cases h1 : cupB d f
      · exact .inl rfl
      · right
        have : ¬ (1 ≤ a ∧ a ≤ 12) := fun e => h ⟨h1, e⟩
        omega
    exact ⟨0, false, fun w => specCountRuns_no d f a w h', fun w => implCountRuns_no d f a w h'⟩

theorem implEach_yes (d f : Nat) (w : World) (hd1 : 1 ≤ d) (hd : d ≤ 8) (hf1 : 1 ≤ f) (hf : f ≤ 12) :
    Calls Try.prog 39 #[.int .i64 d, .int .i64 f] w fun e w' => e = .returned (.tuple #[.int .i64 (sj f d : Nat), .bool true]) ∧ Below w.heap.size w w' := by
  have h := fun w => implCountRuns_yes d f f w hd1 hd hf1 hf hf1 hf
  rw [each_math d f hf1] at h
  have H := Lib.hid h
  clear h
  go_enter Try.func39, Try.ntmps39
  go_wp2_with fail
  refine (H.out _).mono ?_
  rintro e w1 ⟨rfl, hx1⟩
  go_wp2
  go_ret2
  exact ⟨rfl, hx1⟩
theorem implEach_no (d f : Int) (w : World) (h : cupB d f = false) :
    Calls Try.prog 39 #[.int .i64 d, .int .i64 f] w fun e w' => e = .returned (.tuple #[.int .i64 0, .bool false]) ∧ Below w.heap.size w w' := by
  go_enter Try.func39, Try.ntmps39
  go_wp2_with fail
  refine (implCountRuns_no d f f _ (.inl h)).mono ?_
  rintro e w1 ⟨rfl, hx1⟩
  go_wp2
  go_ret2
  exact ⟨rfl, hx1⟩
theorem ieT_bd (d f k : Nat) (hd : d ≤ 8) (hf : f ≤ 12) : 0 ≤ ieT d f k ∧ ieT d f k ≤ 924 * 429981696 := by
  unfold ieT
  have := Nat.mul_le_mul (bin_small hf (k := k)) (pow_small12 (show f - k ≤ 12 by omega) hd)
  omega
theorem ieS_bd (d f : Nat) (hd : d ≤ 8) (hf : f ≤ 12) : ∀ k : Nat, -((k : Int) * 397303087104) ≤ ieS d f k ∧ ieS d f k ≤ (k : Int) * 397303087104
  | 0 => by simp [ieS]
  | k + 1 => by
    have h1 := ieS_bd d f hd hf k
    have h2 := ieT_bd d f k hd hf
    unfold ieS
    by_cases h : k % 2 = 0
    · rw [if_pos h]; omega
    · rw [if_neg h]; omega
set_option maxRecDepth 100000 in
set_option maxHeartbeats 1000000 in
theorem specEach_yes (d f : Nat) (w : World) (hd1 : 1 ≤ d) (hd : d ≤ 8) (hf1 : 1 ≤ f) (hf : f ≤ 12) :
    Calls Try.prog 40 #[.int .i64 d, .int .i64 f] w fun e w' => e = .returned (.tuple #[.int .i64 (sj f d : Nat), .bool true]) ∧ Below w.heap.size w w' := by
  have hc : cupB (d : Int) (f : Int) = true := cupB_iff.2 (by omega)
  have hie := sj_ie d hd f hf
  have HC := Lib.hid hc; have HIE := Lib.hid hie
  clear hc hie
  go_enter Try.func40, Try.ntmps40
  go_wp2_with fail
  refine (diAsked_any _ _ _).mono ?_
  rintro e w1 ⟨rfl, rfl⟩
  rw [HC.out]
  go_wp2_with fail
  go_loop [6, 7, 8] (fun v i _ => ∃ (k : Nat) (V : Int), k ≤ f + 1 ∧ i = .int .i64 k ∧ v = .int .i64 V ∧ V = ieS d f k) (fun _ i _ => f + 1 - (intOf i).toNat)
  case atStart => exact ⟨0, 0, Nat.zero_le _, rfl, rfl, rfl⟩
  case round =>
    obtain ⟨k, V, hk, rfl, rfl, hV⟩ := hrel
    by_cases hkf : k ≤ f
    · have h1 : (k : Int) ≤ (f : Int) := by omega
      have hb := ieS_bd d f hd hf k
      rw [← hV] at hb
      have hb2 : -(13 * (924 * 429981696) : Int) ≤ V ∧ V ≤ 13 * (924 * 429981696) := by omega
      have ht := ieT_bd d f k hd hf
      have hst : ieS d f (k + 1) = if k % 2 = 0 then V + ieT d f k else V - ieT d f k := by rw [hV]; rfl
      have hch := fun w => diChoose_any f k w hf hkf
      have hpw := fun w => diPower_any (f - k) d w (by omega) hd
      have hc9 := bin_small hf (k := k)
      have hp9 := pow_small12 (show f - k ≤ 12 by omega) hd
      have htd : ieT d f k = ((bin f k * (f - k) ^ d : Nat) : Int) := rfl
      obtain ⟨C, hC⟩ : ∃ C, C = bin f k := ⟨_, rfl⟩
      obtain ⟨P, hP⟩ : ∃ P, P = (f - k) ^ d := ⟨_, rfl⟩
      rw [← hC, ← hP] at htd
      rw [← hC] at hch hc9
      rw [← hP] at hpw hp9
      obtain ⟨Q, hQ⟩ : ∃ Q, Q = C * P := ⟨_, rfl⟩
      rw [← hQ] at htd
      rw [htd] at hst ht
      have hQi : (C : Int) * (P : Int) = (Q : Int) := by rw [hQ]; push_cast; rfl
      have hfk : (f : Int) - (k : Int) = ((f - k : Nat) : Int) := by omega
      have HCH := Lib.hid hch; have HPW := Lib.hid hpw
      by_cases hpar : k % 2 = 0
      · rw [if_pos hpar] at hst
        have hmod : (k : Int) % 2 = 0 := by omega
        have HST := Lib.hid hst
        clear hV hb hst hch hpw htd hC hP hQ hpar
        go_wp2_with fail
        refine (HCH.out _).mono ?_
        rintro e w1 ⟨rfl, rfl⟩
        go_wp2_with fail
        refine (HPW.out _).mono ?_
        rintro e w1 ⟨rfl, rfl⟩
        go_wp2
        go_round
        case rel => exact ⟨k + 1, V + Q, by omega, by go_num, rfl, HST.out.symm⟩
        case measure => simp [intOf]; omega
      · rw [if_neg hpar] at hst
        have hmod : (k : Int) % 2 = 1 := by omega
        have HST := Lib.hid hst
        clear hV hb hst hch hpw htd hC hP hQ hpar
        go_wp2_with fail
        refine (HCH.out _).mono ?_
        rintro e w1 ⟨rfl, rfl⟩
        go_wp2_with fail
        refine (HPW.out _).mono ?_
        rintro e w1 ⟨rfl, rfl⟩
        go_wp2
        go_round
        case rel => exact ⟨k + 1, V - Q, by omega, by go_num, rfl, HST.out.symm⟩
        case measure => simp [intOf]; omega
    · have h1 : ¬ (k : Int) ≤ (f : Int) := by omega
      obtain rfl : k = f + 1 := by omega
      have hVe : V = (sj f d : Int) := by rw [hV]; exact HIE.out
      have HV := Lib.hid hVe
      clear hV hVe
      go_wp2
      go_ret2
      exact ⟨by rw [← HV.out]; rfl, Below.refl _ _⟩
theorem specEach_no (d f : Int) (w : World) (h : cupB d f = false) :
    Calls Try.prog 40 #[.int .i64 d, .int .i64 f] w fun e w' => e = .returned (.tuple #[.int .i64 0, .bool false]) ∧ Below w.heap.size w w' := by
  have HC := Lib.hid h
  clear h
  go_enter Try.func40, Try.ntmps40
  go_wp2_with fail
  refine (diAsked_any _ _ _).mono ?_
  rintro e w1 ⟨rfl, rfl⟩
  rw [HC.out]
  go_wp2
  go_ret2
  exact ⟨rfl, Below.refl _ _⟩
theorem countEachFace_both (d f : Int) : ∃ (x : Int) (ok : Bool),
    (∀ w, Calls Try.prog 40 #[.int .i64 d, .int .i64 f] w fun e w' => e = .returned (.tuple #[.int .i64 x, .bool ok]) ∧ Below w.heap.size w w') ∧
    (∀ w, Calls Try.prog 39 #[.int .i64 d, .int .i64 f] w fun e w' => e = .returned (.tuple #[.int .i64 x, .bool ok]) ∧ Below w.heap.size w w') := by
  cases hc : cupB d f
  · exact ⟨0, false, fun w => specEach_no d f w hc, fun w => implEach_no d f w hc⟩
  · obtain ⟨m, n, rfl, rfl, h1, h2, h3, h4⟩ := cupB_nat hc
    exact ⟨_, _, fun w => specEach_yes m n w h1 h2 h3 h4, fun w => implEach_yes m n w h1 h2 h3 h4⟩
end Go.Proofs.Ytnohpclaccaijab
