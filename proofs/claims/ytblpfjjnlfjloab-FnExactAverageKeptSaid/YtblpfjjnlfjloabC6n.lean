/-
  Dice: diKept, the model's sums of the greatest dice.
-/
import Derived.Test.YtblpfjjnlfjloabC6j
import Derived.Test.YtblpfjjnlfjloabM45
import Derived.Test.YtblpfjjnlfjloabWNum
import Derived.StillTailTactics
namespace Go.Proofs.Ytblpfjjnlfjloab
open Go.RowKit

def KeptBack (w : World) (d f kept : Nat) (e : Ending) (w' : World) : Prop :=
  ∃ v n, e = .returned v ∧ w'.ownsRow w.heap.size 3 1 v n (numL n (kq d f kept)) ∧ n ≤ kept * f + 1 ∧ (∀ s, n ≤ s → kq d f kept s = 0) ∧ Below w.heap.size w w'

theorem l1Least_d (a b v : Int) (w : World) (h : (a < b ∧ v = a) ∨ (¬ a < b ∧ v = b)) :
    Calls Try.prog 52 #[.int .i64 a, .int .i64 b] w (fun e w' => e = .returned (.int .i64 v) ∧ w = w') := by
  rcases h with ⟨h, rfl⟩ | ⟨h, rfl⟩
  all_goals
    go_enter Try.func52, Try.ntmps52
    go_wp2
    go_ret
    exact ⟨rfl, rfl⟩

theorem kq_base (d f kept s : Nat) (h : d = 0 ∨ kept = 0) : kq d f kept s = if s = 0 then f ^ d else 0 := by
  rcases h with rfl | rfl
  · rw [kq_zero]; simp
  · exact kq_done d f s
set_option maxRecDepth 100000 in
theorem diKept_base (d f kept : Nat) (w : World) (hd : d ≤ 8) (hf : f ≤ 12) (h : d = 0 ∨ kept = 0) :
    Calls Try.prog 44 #[.int .i64 d, .int .i64 f, .int .i64 kept] w (KeptBack w d f kept) := by
  have hb := fun s => kq_base d f kept s h
  have HB := Lib.hid hb
  obtain ⟨P, hP⟩ : ∃ P, P = f ^ d := ⟨_, rfl⟩
  have hpow := fun w => diPower_any f d w hf hd
  rw [← hP] at hpow
  have HP := Lib.hid hP; have HPOW := Lib.hid hpow
  clear hb hP hpow
  have fin : ∀ w' : World, w'.ownsRow w.heap.size 3 1 (.slice (some ⟨w.heap.size, 0, none⟩) 1 1) 1 [.int .i64 P] → Below w.heap.size w w' → KeptBack w d f kept (.returned (.slice (some ⟨w.heap.size, 0, none⟩) 1 1)) w' := fun w' ho hx => by
    refine ⟨_, 1, rfl, ?_, by omega, fun s hs => by rw [HB.out, if_neg (by omega)], hx⟩
    have e : numL 1 (kq d f kept) = [.int .i64 P] := by
      show [Value.int .i64 (kq d f kept 0 : Nat)] = _
      rw [HB.out, if_pos rfl, HP.out]
    rw [e]; exact ho
  have FIN := Lib.hid fin
  clear fin
  by_cases h0 : d = 0
  · subst h0
    go_enter Try.func44, Try.ntmps44
    go_wp2_with fail
    refine (HPOW.out _).mono ?_
    rintro e w1 ⟨rfl, rfl⟩
    go_wp2
    go_ret
    exact FIN.out _ (own_newN _ _ _ _ rfl (Nat.le_refl _)) (below1 _ _)
  · obtain rfl : kept = 0 := by omega
    have hd0 : ((d : Int) == 0) = false := beq_eq_false_iff_ne.2 (by omega)
    go_enter Try.func44, Try.ntmps44
    go_wp2_with fail
    refine (HPOW.out _).mono ?_
    rintro e w1 ⟨rfl, rfl⟩
    go_wp2
    go_ret
    exact FIN.out _ (own_newN _ _ _ _ rfl (Nat.le_refl _)) (below1 _ _)

set_option maxRecDepth 100000 in
set_option maxHeartbeats 2000000 in
theorem diKept_any : ∀ (f d kept : Nat) (w : World) (_ : kept ≤ d) (_ : d ≤ 8) (_ : f ≤ 12),
    Calls Try.prog 44 #[.int .i64 d, .int .i64 f, .int .i64 kept] w (KeptBack w d f kept)
  | 0, d, kept, w, hk, hd, hf => by
    by_cases h : d = 0 ∨ kept = 0
    · exact diKept_base d 0 kept w hd hf h
    · have hd0 : ((d : Int) == 0) = false := beq_eq_false_iff_ne.2 (by omega)
      have hk0 : ((kept : Int) == 0) = false := beq_eq_false_iff_ne.2 (by omega)
      go_enter Try.func44, Try.ntmps44
      go_wp2
      go_ret
      refine ⟨_, 0, rfl, World.ownsRow_nil _ _ _ _, by omega, fun s _ => ?_, Below.refl _ _⟩
      obtain ⟨e, rfl⟩ : ∃ e, d = e + 1 := ⟨d - 1, by omega⟩
      rfl
  | f + 1, d, kept, w, hk, hd, hf => by
    by_cases h : d = 0 ∨ kept = 0
    · exact diKept_base d (f + 1) kept w hd hf h
    · have ih := diKept_any f
      have IH := Lib.hid ih
      clear ih
      obtain ⟨i0, hi, hz0, hz1, hz2⟩ := info_parts infoInt1
      have hd0 : ((d : Int) == 0) = false := beq_eq_false_iff_ne.2 (by omega)
      have hk0 : ((kept : Int) == 0) = false := beq_eq_false_iff_ne.2 (by omega)
      obtain ⟨F, hF⟩ : ∃ F, F = f + 1 := ⟨_, rfl⟩
      have hf0 : ((F : Int) == 0) = false := beq_eq_false_iff_ne.2 (by omega)
      have hall := fun s => kpS_all d f kept s
      have HALL := Lib.hid hall
      have hFi : (F : Int) - 1 = (f : Int) := by omega
      have hF9 : F ≤ 12 := by omega
      have HF := Lib.hid hF; have HFI := Lib.hid hFi
      rw [← hF]
      clear h hall hF hFi
      go_enter Try.func44, Try.ntmps44
      go_wp2_with fail
      go_loopw [7, 8] (fun v i wr => ∃ k n : Nat, k ≤ d + 1 ∧ i = .int .i64 k ∧ wr.ownsRow w.heap.size 3 1 v n (numL n (kpS d f kept k)) ∧ n ≤ kept * F + 1 ∧ Hid (∀ s, n ≤ s → kpS d f kept k s = 0) ∧ Below w.heap.size w wr) (fun _ i _ => d + 1 - (intOf i).toNat)
      case atStart => exact ⟨0, 0, Nat.zero_le _, rfl, World.ownsRow_nil _ _ _ _, by omega, Lib.hid fun _ _ => rfl, Below.refl _ _⟩
      case round =>
        obtain ⟨k, n, hkd, rfl, hown, hn, HZ, hB⟩ := hrel
        obtain ⟨Av0, cv0, rfl⟩ := own_sliceN hown
        obtain ⟨wo, rfl⟩ : ∃ wo : World, wo = wr := ⟨_, rfl⟩
        by_cases hlt : k ≤ d
        · have hkl : (k : Int) ≤ (d : Int) := by omega
          obtain ⟨c, hc⟩ : ∃ c, c = min k kept := ⟨_, rfl⟩
          have hleast := fun w => l1Least_d (k : Int) (kept : Int) (c : Int) w (by omega)
          have hdk : (d : Int) - (k : Int) = ((d - k : Nat) : Int) := by omega
          have hkc : (kept : Int) - (c : Int) = ((kept - c : Nat) : Int) := by omega
          have hfi := HFI.out
          have hck : c ≤ kept := by omega
          have hckd : kept - c ≤ d - k := by omega
          have HLEAST := Lib.hid hleast
          have HC := Lib.hid hc
          clear hleast hc
          go_wp2_with fail
          refine (HLEAST.out _).mono ?_
          rintro e w1 ⟨rfl, rfl⟩
          go_wp2_with fail
          refine (IH.out (d - k) (kept - c) _ hckd (by omega) (by omega)).mono ?_
          rintro e w2 ⟨y, n1, rfl, hy, hn1, hz, hx2⟩
          obtain ⟨Ay, cy, rfl⟩ := own_sliceN hy
          have hyb : ∀ gy, Ay = some ⟨gy, 0, none⟩ → wo.heap.size ≤ gy ∧ gy < w2.heap.size := fun gy e => by subst e; exact ⟨own_from hy gy rfl, own_ltN hy gy rfl⟩
          have hyr : n1 = 0 ∨ ∃ gy, Ay = some ⟨gy, 0, none⟩ ∧ RowI w2 gy 3 n1 (fun i => (kq (d - k) f (kept - c) i : Int)) := by
            rcases Nat.eq_zero_or_pos n1 with h | h
            · exact .inl h
            · obtain ⟨gy, cy', e, _, _, hr⟩ := own_num hy h
              injection e with e _ _
              exact .inr ⟨gy, e, hr⟩
          have hob := own_ltN hown
          have hown2 := own_below hown hx2
          have hB2 := hB.trans (hx2.mono hB.size)
          have hroom := kp_room f kept k
          rw [← HC.out, ← HF.out] at hroom
          have hKF : kept * F ≤ 8 * 12 := Nat.mul_le_mul (by omega) hF9
          obtain ⟨M, hM⟩ : ∃ M, M = c * F := ⟨_, rfl⟩
          have hMi : (c : Int) * (F : Int) = (M : Int) := by rw [hM]; push_cast; rfl
          rw [← hM] at hroom
          have hdone := fun s => kiS_done d f kept k n1 s (by rw [← HC.out]; exact hz)
          have HD := Lib.hid hdone
          have HYB := Lib.hid hyb
          have HM := Lib.hid hM
          have hstart : numL n (kpS d f kept k) = numL n (kiS d f kept k 0) := numL_congr fun i _ => (kiS_zero _ _ _ _ _).symm
          rw [hstart] at hown2
          have hz0' : Hid (∀ s, n ≤ s → kiS d f kept k 0 s = 0) := Lib.hid fun s hs => by rw [kiS_zero]; exact HZ.out s hs
          have hnb : Hid (∀ gy, Ay = some ⟨gy, 0, none⟩ → (Value.slice Av0 n cv0).ownBlock ≠ some gy) := Lib.hid fun gy e e2 => by have := hob gy e2; have := (HYB.out gy e).1; omega
          have hwo : wo.heap.size ≤ w2.heap.size := hx2.size
          have hwz := hB.size
          clear hy hyb hob hown hx2 hB hdone hM hstart hz HZ
          go_wp2_with fail
          go_loopw [7, 10, 11, 12, 43] (fun v _ _ _ i wi => ∃ i' m : Nat, i' ≤ n1 ∧ i = .int .i64 i' ∧ wi.ownsRow w.heap.size 3 1 v m (numL m (kiS d f kept k i')) ∧ m ≤ kept * F + 1 ∧ Hid (∀ s, m ≤ s → kiS d f kept k i' s = 0) ∧ Hid (∀ gy, Ay = some ⟨gy, 0, none⟩ → v.ownBlock ≠ some gy) ∧ (n1 = 0 ∨ ∃ gy, Ay = some ⟨gy, 0, none⟩ ∧ RowI wi gy 3 n1 (fun i => (kq (d - k) f (kept - c) i : Int))) ∧ Below w.heap.size w wi ∧ w2.heap.size ≤ wi.heap.size) (fun _ _ _ _ i _ => n1 - (intOf i).toNat)
          case atStart => exact ⟨0, n, Nat.zero_le _, rfl, hown2, hn, hz0', hnb, hyr, hB2, Nat.le_refl _⟩
          case round =>
            clear hown2 hn hz0' hnb hyr hB2
            obtain ⟨i', m, hi1, rfl, hown, hm, HZ, HNB, hyr, hB, hsz⟩ := hrel
            obtain ⟨wp, rfl⟩ : ∃ wp : World, wp = wr := ⟨_, rfl⟩
            by_cases hli : i' < n1
            · obtain ⟨gy, rfl, hry⟩ : ∃ gy, Ay = some ⟨gy, 0, none⟩ ∧ RowI wp gy 3 n1 (fun i => (kq (d - k) f (kept - c) i : Int)) := by
                rcases hyr with h | h
                · omega
                · exact h
              have c1 : wp.cell? ⟨gy, i', none⟩ = some (.int .i64 (kq (d - k) f (kept - c) i' : Nat)) := RowI.cell hry hli
              obtain ⟨b, hb⟩ : ∃ b, b = kq (d - k) f (kept - c) i' := ⟨_, rfl⟩
              rw [← hb] at c1
              have hb9 : b ≤ 429981696 := by rw [hb]; exact Nat.le_trans (kq_le _ _ _ _) (pow_small12 (by omega) (by omega))
              obtain ⟨x, hx⟩ : ∃ x, x = i' + M := ⟨_, rfl⟩
              have hxi : (i' : Int) + (M : Int) = (x : Int) := by omega
              have hx9 : x ≤ kept * F := by omega
              have hx96 : x ≤ 96 := by omega
              obtain ⟨Av, cv', rfl⟩ := own_sliceN hown
              have HX := Lib.hid hx; have HB := Lib.hid hb
              have hyl := (HYB.out gy rfl).2
              clear hx hb hyr
              go_wp2_with fail
              go_loopw [7] (fun v wj => ∃ m A c', v = .slice A m c' ∧ wj.ownsRow w.heap.size 3 1 (.slice A m c') m (numL m (kiS d f kept k i')) ∧ m ≤ kept * F + 1 ∧ Hid (∀ s, m ≤ s → kiS d f kept k i' s = 0) ∧ Hid ((Value.slice A m c').ownBlock ≠ some gy) ∧ RowI wj gy 3 n1 (fun i => (kq (d - k) f (kept - c) i : Int)) ∧ Below w.heap.size w wj ∧ w2.heap.size ≤ wj.heap.size) (fun v _ => match v with | .slice _ m _ => x + 1 - m | _ => 0)
              case atStart => exact ⟨m, Av, cv', rfl, hown, hm, HZ, Lib.hid (HNB.out gy rfl), hry, hB, hsz⟩
              case round =>
                clear hown hm HZ HNB hry hB hsz c1
                obtain ⟨m, A, c', rfl, hown, hm, HZ, HNB, hry, hB, hsz⟩ := hrel
                by_cases hmx : m ≤ x
                · have h1 : (m : Int) ≤ (x : Int) := by omega
                  have hm0 : (kiS d f kept k i' m : Int) = 0 := by rw [HZ.out m (Nat.le_refl _)]; rfl
                  have HM0 := Lib.hid hm0
                  clear hm0
                  go_wp2_with (at_builtin; go_loud (refine wpList_append_own_at _ rfl _ _ 25 rfl w.heap.size 3 i0 (.int .i64 0) 1 8 Try.underlying25 hi hz0 hz1 hz2 rfl (by decide) _ _ _ rfl (hown.alloc _) ⟨wr.heap.size, 0, none⟩ 1 1 [.int .i64 0] rfl rfl (cell_new1 _ _ _) (one_int _) (by unfold maxLen; omega) (by omega) (by simp; omega) ?_; intro v1 w4 hown4 hg4 _ hat4))
                  rw [numL_snoc _ _ _ HM0.out] at hown4
                  obtain ⟨A4, c4, rfl⟩ := own_sliceN hown4
                  go_roundw
                  case rel =>
                    have hsz4 := hg4.size
                    simp only [World.size_alloc] at hsz4
                    refine ⟨m + 1, A4, c4, rfl, hown4, by omega, Lib.hid fun s hs => HZ.out s (by omega), Lib.hid ?_, (hry.alloc _).grown hg4 (fun e => HNB.out e.symm), (hB.alloc (by omega) _).grown hg4 (by simp; omega) (fun j h => own_from hown j h), by omega⟩
                    intro e
                    rcases hat4 with h | h
                    · exact HNB.out (h.symm.trans e)
                    · rw [h] at e; injection e with e; simp at e; omega
                  case measure => simp; omega
                · have h1 : ¬ (m : Int) ≤ (x : Int) := by omega
                  obtain ⟨gv, cv2, e, hgv, hmc, hrv⟩ := own_num hown (by omega)
                  injection e with e1 _ e2
                  subst e1
                  subst e2
                  have hlt2 : x < m := by omega
                  have c2 : wr.cell? ⟨gv, x, none⟩ = some (.int .i64 (kiS d f kept k i' x : Nat)) := RowI.cell hrv hlt2
                  have f2 := RowI.free hrv x
                  have hst := hown.stored x
                  have hle := kiS_le d f kept k (i' + 1) x (by omega)
                  have hstep := kiS_step d f kept k i' x
                  rw [← HC.out, ← HF.out, ← HM.out, if_pos HX.out, ← HB.out] at hstep
                  have hp := pow_small12 (show f + 1 ≤ 12 by omega) hd
                  obtain ⟨a, ha⟩ : ∃ a, a = kiS d f kept k i' x := ⟨_, rfl⟩
                  obtain ⟨Q, hQ⟩ : ∃ Q, Q = bin d k * b := ⟨_, rfl⟩
                  obtain ⟨C, hC⟩ : ∃ C, C = bin d k := ⟨_, rfl⟩
                  have hch := fun w => diChoose_any d k w (by omega) hlt
                  rw [← ha, ← hQ] at hstep
                  rw [← ha] at c2
                  rw [← hC] at hQ hch
                  have hQi : (C : Int) * (b : Int) = (Q : Int) := by rw [hQ]; push_cast; rfl
                  have haQ : a + Q ≤ 429981696 := by omega
                  have hwq : IntKind.i64.wrap ((a : Int) + (Q : Int)) = (a : Int) + (Q : Int) := IntWalk.i64_in _ (by omega)
                  have hwQ : IntKind.i64.wrap ((C : Int) * (b : Int)) = (Q : Int) := by rw [hQi]; exact IntWalk.i64_in _ (by omega)
                  have hx0 : (0 : Int) ≤ (x : Int) := by omega
                  have hxm : (x : Int) < (m : Int) := by omega
                  have HSTEP := Lib.hid hstep; have HCH := Lib.hid hch; have HST := Lib.hid hst
                  have hwr := hry.lt
                  clear hstep hch hst hle ha hQ hC hp hQi
                  go_wp2_with fail
                  refine wp_region_still_tail 11 (by kernel_rfl) (by kernel_rfl) ?_
                  simp only [List.take_succ_cons, List.take_zero, List.drop_succ_cons, List.drop_zero]
                  still_step
                  still_step
                  still_step
                  still_step
                  still_step
                  still_step
                  still_call ((HCH.out wr.drew).mono (fun _ _ h => ⟨h.1, h.2.symm⟩))
                  still_step
                  still_step
                  still_step
                  still_step
                  refine wpStill_nil ?_
                  change wpList _ _ _ _ _ wr.drew
                  go_wp2
                  go_roundw
                  case rel =>
                    have hst1 := (HST.out (.int .i64 ((a : Int) + (Q : Int)))).1
                    rw [show (a : Int) + (Q : Int) = ((a + Q : Nat) : Int) by omega, numL_set] at hst1
                    have hcg : numL m (fun i => if i = x then a + Q else kiS d f kept k i' i) = numL m (kiS d f kept k (i' + 1)) := numL_congr fun i _ => by
                      rw [kiS_step, ← HC.out, ← HF.out, ← HM.out, ← HX.out]
                      by_cases e : i = x
                      · rw [if_pos e, if_pos e]
                        rw [e]
                        have h1 := kiS_step d f kept k i' x
                        rw [← HC.out, ← HF.out, ← HM.out, if_pos HX.out] at h1
                        rw [← h1, ← HSTEP.out]
                      · rw [if_neg e, if_neg e]
                    rw [hcg] at hst1
                    have hne : gv ≠ gy := fun e => HNB.out (by rw [e]; rfl)
                    have hgvw : w.heap.size ≤ gv := hgv
                    refine ⟨i' + 1, m, by omega, by go_num, hst1, hm, Lib.hid fun s hs => ?_, Lib.hid fun gy' e => ?_, .inr ⟨gy, rfl, (hry.far (fun e => hne e.symm) _).drew⟩, (hB.setCell hgvw _).drew, by simpa using hsz⟩
                    · rw [kiS_step, ← HC.out, ← HF.out, ← HM.out, ← HX.out, if_neg (by omega)]
                      exact HZ.out s hs
                    · injection e with e; injection e with e _ _; subst e; exact HNB.out
                  case measure => simp [intOf]; omega
            · obtain rfl : i' = n1 := by omega
              have hcg : numL m (kiS d f kept k i') = numL m (kpS d f kept (k + 1)) := numL_congr fun i _ => HD.out i
              rw [hcg] at hown
              clear hcg hyr
              go_wp2
              go_roundw
              case rel => exact ⟨k + 1, m, by omega, by go_num, hown, hm, Lib.hid fun s hs => by rw [← HD.out]; exact HZ.out s hs, hB⟩
              case measure => simp [intOf]; omega
        · have hkl : ¬ (k : Int) ≤ (d : Int) := by omega
          obtain rfl : k = d + 1 := by omega
          go_wp2
          go_ret
          refine ⟨_, n, rfl, ?_, hn, fun s hs => ?_, hB⟩
          · rw [numL_congr (H := kpS d f kept (d + 1)) (fun i _ => by rw [HALL.out, HF.out])]; exact hown
          · rw [HF.out, ← HALL.out]; exact HZ.out s hs
end Go.Proofs.Ytblpfjjnlfjloab
