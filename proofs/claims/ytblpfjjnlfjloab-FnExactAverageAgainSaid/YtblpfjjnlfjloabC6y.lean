/-
  Dice: sumsAgain and diAgain: a die that is thrown again.
-/
import Derived.Test.YtblpfjjnlfjloabC6h
import Derived.Test.YtblpfjjnlfjloabC6j
import Derived.Test.YtblpfjjnlfjloabM47
import Derived.StillTailTactics
namespace Go.Proofs.Ytblpfjjnlfjloab
open Go.RowKit

def moreB (f g : Int) : Bool := decide (1 ≤ f ∧ f ≤ 12 ∧ 0 ≤ g ∧ g ≤ 6)
theorem moreB_iff {f g : Int} : moreB f g = true ↔ 1 ≤ f ∧ f ≤ 12 ∧ 0 ≤ g ∧ g ≤ 6 := by simp [moreB]
theorem moreB_nat {f g : Int} (h : moreB f g = true) : ∃ m n : Nat, f = m ∧ g = n ∧ 1 ≤ m ∧ m ≤ 12 ∧ n ≤ 6 := by
  have := moreB_iff.1 h
  exact ⟨f.toNat, g.toNat, by omega, by omega, by omega, by omega, by omega⟩
theorem moreB_in (f g : Int) : moreB f g = (cupB 1 f && inB g 0 6) := by
  rw [Bool.eq_iff_iff, moreB_iff, Bool.and_eq_true, cupB_iff, inB_iff]; omega
theorem diMore_any (f g : Int) (w : World) : Calls Try.prog 48 #[.int .i64 f, .int .i64 g] w fun e w' => e = .returned (.bool (moreB f g)) ∧ w = w' := by
  cases h1 : cupB 1 f <;> cases h2 : inB g 0 6
  all_goals
    have hp := moreB_in f g
    rw [h1, h2] at hp
    simp only [Bool.and_true, Bool.and_false] at hp
    have HP := Lib.hid hp; clear hp
    have ha := fun w => diAsked_any 1 f w
    rw [h1] at ha
    have HA := Lib.hid ha; clear ha
    go_enter Try.func48, Try.ntmps48
    go_wp2_with (first | (go_at_call 33; refine (HA.out _).mono ?_; rintro e w' ⟨rfl, rfl⟩) | (go_at_call 34; refine (l1In_d _ _ _ _).mono ?_; rintro e w' ⟨rfl, rfl⟩))
    go_ret
    exact ⟨ret_bool HP.out.symm, rfl⟩

theorem ag_n {f g n : Nat} (hn : n = (g + 1) * f + 1) (hf : f ≤ 12) (hg : g ≤ 6) : n ≤ 85 := by
  have := Nat.mul_le_mul (show g + 1 ≤ 7 by omega) hf
  omega
theorem ag_idx {f g q x n m : Nat} (hn : n = (g + 1) * f + 1) (hq : q ≤ g) (hx : x = q * f + (m + 1)) (hm : m + 1 ≤ f) : x < n := by
  have h := Nat.mul_le_mul_right f (show q + 1 ≤ g + 1 by omega)
  rw [Nat.add_mul, Nat.one_mul] at h
  omega

set_option maxRecDepth 100000 in
set_option maxHeartbeats 1000000 in
theorem sumsAgain_yes (f g : Nat) (w : World) (hf1 : 1 ≤ f) (hf : f ≤ 12) (hg : g ≤ 6) :
    Calls Try.prog 50 #[.int .i64 f, .int .i64 g] w fun e w' => ∃ gr, e = .returned (.tuple #[.slice (some ⟨gr, 0, none⟩) ((g + 1) * f + 1) ((g + 1) * f + 1), .bool true]) ∧ w.heap.size ≤ gr ∧ TallyAt w' gr ((g + 1) * f + 1) (pOut f g (g + 1)) ∧ Below w.heap.size w w' := by
  obtain ⟨i0, hi, hz0, hz1, hz2⟩ := info_parts infoInt1
  have hc : cupB 1 (f : Int) = true := cupB_iff.2 (by omega)
  obtain ⟨M, hM⟩ : ∃ M, M = (g + 1) * f := ⟨_, rfl⟩
  have hMi : ((g : Int) + 1) * (f : Int) = (M : Int) := by rw [hM]; push_cast; rfl
  obtain ⟨n, hn⟩ : ∃ n, n = M + 1 := ⟨_, rfl⟩
  have hMn : (M : Int) + 1 = (n : Int) := by omega
  have hnf : n = (g + 1) * f + 1 := by rw [hn, hM]
  have hn85 := ag_n hnf hf hg
  have hn1 : 1 ≤ n := by omega
  rw [← hnf]
  have hM0 : M < n := by omega
  have h1 : ¬ (g : Int) < 0 := by omega
  have h2 : ¬ (6 : Int) < (g : Int) := by omega
  have HM := Lib.hid hM; have HNF := Lib.hid hnf
  clear hM hn hnf
  go_enter Try.func50, Try.ntmps50
  go_wp2_with fail
  refine (cupOf_yes _ _ _ hc).mono ?_
  rintro e w1 ⟨rfl, hx1⟩
  have hb1 := (hx1.alloc hx1.size (.cells #[.int .i64 1, .int .i64 f] 50))
  obtain ⟨w2, hw2⟩ : ∃ w2, w2 = w1.alloc (.cells #[.int .i64 1, .int .i64 f] 50) := ⟨_, rfl⟩
  rw [← hw2] at hb1
  have HW2 := Lib.hid hw2
  clear hx1 hw2
  go_wp2_with (at_make; rw [← HW2.out]; refine wpList_make_full _ rfl _ _ 37 rfl w2.heap.size 3 i0 _ 1 Try.underlying37 hi hz0 hz1 _ _ _ _ n rfl rfl rfl rfl (by rw [hz2]; omega) (by unfold maxLen; omega) (Nat.le_refl _) ?_; intro w4 hown hgrow; have hrow : TallyAt w4 w2.heap.size n (fun _ => 0) := madeI hown rfl; have c4 : w4.cell? ⟨w2.heap.size, M, none⟩ = some (.int .i64 0) := RowI.cell hrow hM0; have f4 := RowI.free hrow M; have z4 := RowI.lt hrow)
  obtain ⟨gr, hgr⟩ : ∃ gr, gr = w2.heap.size := ⟨_, rfl⟩
  have hle : w.heap.size ≤ gr := by rw [hgr]; exact hb1.size
  rw [← hgr] at hrow ⊢
  have hT0 : TallyAt (w4.setCell ⟨gr, M, none⟩ (.int .i64 1)) gr n (pOut f g 0) := RowI.congr (RowI.set hrow hM0 1) (fun i _ => by
    unfold pOut
    rw [← HM.out]
    by_cases e : i = M
    · rw [if_pos e, if_pos e]; try rfl
    · rw [if_neg e, if_neg e]; try rfl)
  have hB0 : Below w.heap.size w (w4.setCell ⟨gr, M, none⟩ (.int .i64 1)) := (hb1.grown hgrow hb1.size (fun k h => by cases h)).setCell hle _
  clear hown hgrow hrow c4 f4 z4 hb1 HW2 hgr
  go_loopw [9, 10, 11] (fun v i _ wr => ∃ r : Nat, r ≤ g + 1 ∧ i = .int .i64 ((g : Int) - r) ∧ v = .int .i64 (f ^ r : Nat) ∧ TallyAt wr gr n (pOut f g r) ∧ Below w.heap.size w wr) (fun _ i _ _ => (intOf i + 1).toNat)
  case atStart => exact ⟨0, Nat.zero_le _, by simp, rfl, hT0, hB0⟩
  case round =>
    clear hT0 hB0
    obtain ⟨r, hr, rfl, rfl, hT, hB⟩ := hrel
    obtain ⟨wo, rfl⟩ : ∃ wo : World, wo = wr := ⟨_, rfl⟩
    obtain ⟨P, hP⟩ : ∃ P, P = f ^ r := ⟨_, rfl⟩
    rw [← hP]
    by_cases hlt : r ≤ g
    · obtain ⟨q, hq⟩ : ∃ q, q = g - r := ⟨_, rfl⟩
      have hqi : (g : Int) - (r : Int) = (q : Int) := by omega
      have hq0 : (0 : Int) ≤ (q : Int) := by omega
      have hP9 := pow_small12 hf (show r + 1 ≤ 8 by omega)
      rw [Nat.pow_succ, ← hP] at hP9
      have hP1 : P ≤ 429981696 := Nat.le_trans (Nat.le_mul_of_pos_right P (by omega)) hP9
      obtain ⟨P2, hP2⟩ : ∃ P2, P2 = P * f := ⟨_, rfl⟩
      have hP2i : (P : Int) * (f : Int) = (P2 : Int) := by rw [hP2]; push_cast; rfl
      rw [← hP2] at hP9
      have hP2e : P2 = f ^ (r + 1) := by rw [hP2, hP, Nat.pow_succ]
      obtain ⟨Z, hZ⟩ : ∃ Z, Z = q * f := ⟨_, rfl⟩
      have hZi : (q : Int) * (f : Int) = (Z : Int) := by rw [hZ]; push_cast; rfl
      have HZ := Lib.hid hZ; have HQ := Lib.hid hq; have HP := Lib.hid hP; have HP2 := Lib.hid hP2e
      have hqg : q ≤ g := by omega
      rw [hqi]
      have HQI := Lib.hid hqi
      clear hZ hq hP hP2e hP2 hqi
      go_wp2_with fail
      go_loopw [11] (fun j wj => ∃ m : Nat, m ≤ f - 1 ∧ j = .int .i64 ((m : Int) + 1) ∧ TallyAt wj gr n (pIn (pOut f g r) f g r m) ∧ Below w.heap.size w wj) (fun j _ => f - (intOf j).toNat)
      case atStart => exact ⟨0, Nat.zero_le _, rfl, hT, hB⟩
      case round =>
        clear hT hB
        obtain ⟨m, hm, rfl, hT, hB⟩ := hrel
        by_cases hmf : m + 1 < f
        · have hmi : (m : Int) + 1 < (f : Int) := by omega
          obtain ⟨x, hx⟩ : ∃ x, x = Z + (m + 1) := ⟨_, rfl⟩
          have hxi : (Z : Int) + ((m : Int) + 1) = (x : Int) := by omega
          have hxn : x < n := ag_idx HNF.out hqg (by rw [hx, HZ.out]) (by omega)
          have hxni : (x : Int) < (n : Int) := by omega
          have c1 : wr.cell? ⟨gr, x, none⟩ = some (.int .i64 (pIn (pOut f g r) f g r m x : Nat)) := RowI.cell hT hxn
          have f1 := RowI.free hT x
          have hst : TallyAt (wr.setCell ⟨gr, x, none⟩ (.int .i64 (P : Int))) gr n (pIn (pOut f g r) f g r (m + 1)) := RowI.congr (RowI.set hT hxn (P : Int)) (fun i _ => by
            show _ = ((if i = (g - r) * f + (m + 1) then f ^ r else pIn (pOut f g r) f g r m i : Nat) : Int)
            rw [← HQ.out, ← HZ.out, ← hx, ← HP.out]
            by_cases e : i = x
            · rw [if_pos e, if_pos e]
            · rw [if_neg e, if_neg e])
          have HST := Lib.hid hst
          clear hst hx
          go_wp2
          go_roundw
          case rel => exact ⟨m + 1, by omega, by go_num, HST.out, hB.setCell hle _⟩
          case measure => simp [intOf]; omega
        · have hmi : ¬ (m : Int) + 1 < (f : Int) := by omega
          obtain rfl : m = f - 1 := by omega
          have hT' : TallyAt wr gr n (pOut f g (r + 1)) := hT
          clear hT
          go_wp2
          go_roundw
          case rel => exact ⟨r + 1, by omega, by have := HQI.out; congr 1; push_cast; omega, by rw [HP2.out], hT', hB⟩
          case measure => simp [intOf]; try omega
    · obtain rfl : r = g + 1 := by omega
      have hge : ¬ (0 : Int) ≤ (g : Int) - ((g + 1 : Nat) : Int) := by omega
      go_wp2
      go_ret2
      exact ⟨gr, rfl, hle, hT, hB⟩

set_option maxRecDepth 100000 in
theorem sumsAgain_no (f g : Int) (w : World) (h : moreB f g = false) :
    Calls Try.prog 50 #[.int .i64 f, .int .i64 g] w fun e w' => e = .returned (.tuple #[.slice none 0 0, .bool false]) ∧ Below w.heap.size w w' := by
  cases hc : cupB 1 f
  · go_enter Try.func50, Try.ntmps50
    go_wp2_with fail
    refine (cupOf_no _ _ _ hc).mono ?_
    rintro e w1 ⟨rfl, hx1⟩
    have hb1 := (hx1.alloc hx1.size (.cells #[.int .i64 0, .int .i64 0] 50))
    go_wp2
    go_ret2
    exact ⟨rfl, hb1⟩
  · have hn : g < 0 ∨ 6 < g := by
      have h1 := cupB_iff.1 hc
      have : ¬ (1 ≤ f ∧ f ≤ 12 ∧ 0 ≤ g ∧ g ≤ 6) := fun e => by rw [moreB_iff.2 e] at h; cases h
      omega
    clear h
    rcases hn with hn | hn
    · go_enter Try.func50, Try.ntmps50
      go_wp2_with fail
      refine (cupOf_yes _ _ _ hc).mono ?_
      rintro e w1 ⟨rfl, hx1⟩
      have hb1 := (hx1.alloc hx1.size (.cells #[.int .i64 1, .int .i64 f] 50))
      go_wp2
      go_ret2
      exact ⟨rfl, hb1⟩
    · have hn0 : ¬ g < 0 := by omega
      go_enter Try.func50, Try.ntmps50
      go_wp2_with fail
      refine (cupOf_yes _ _ _ hc).mono ?_
      rintro e w1 ⟨rfl, hx1⟩
      have hb1 := (hx1.alloc hx1.size (.cells #[.int .i64 1, .int .i64 f] 50))
      go_wp2
      go_ret2
      exact ⟨rfl, hb1⟩

set_option maxRecDepth 100000 in
set_option maxHeartbeats 2000000 in
theorem diAgain_any (f g : Nat) (w : World) (hf1 : 1 ≤ f) (hf : f ≤ 12) (hg : g ≤ 6) :
    Calls Try.prog 49 #[.int .i64 f, .int .i64 g] w fun e w' => ∃ gr, e = .returned (.slice (some ⟨gr, 0, none⟩) ((g + 1) * f + 1) ((g + 1) * f + 1)) ∧ w.heap.size ≤ gr ∧ TallyAt w' gr ((g + 1) * f + 1) (mOut f g (g + 1)) ∧ Below w.heap.size w w' := by
  obtain ⟨i0, hi, hz0, hz1, hz2⟩ := info_parts infoInt1
  obtain ⟨M, hM⟩ : ∃ M, M = (g + 1) * f := ⟨_, rfl⟩
  have hMi : ((g : Int) + 1) * (f : Int) = (M : Int) := by rw [hM]; push_cast; rfl
  obtain ⟨n, hn⟩ : ∃ n, n = M + 1 := ⟨_, rfl⟩
  have hMn : (M : Int) + 1 = (n : Int) := by omega
  have hnf : n = (g + 1) * f + 1 := by rw [hn, hM]
  have hn85 := ag_n hnf hf hg
  have hn1 : 1 ≤ n := by omega
  rw [← hnf]
  have HM := Lib.hid hM; have HNF := Lib.hid hnf
  clear hM hn hnf
  go_enter Try.func49, Try.ntmps49
  go_wp2_with (at_make; refine wpList_make_full _ rfl _ _ 25 rfl w.heap.size 3 i0 _ 1 Try.underlying25 hi hz0 hz1 _ _ _ _ n rfl rfl rfl rfl (by rw [hz2]; omega) (by unfold maxLen; omega) (Nat.le_refl _) ?_; intro w4 hown hgrow)
  have hrow : TallyAt w4 w.heap.size n (mOut f g 0) := madeI hown rfl
  have hB0 : Below w.heap.size w w4 := (Below.refl _ _).grown hgrow (Nat.le_refl _) (fun k h => by cases h)
  obtain ⟨gr, hgr⟩ : ∃ gr, gr = w.heap.size := ⟨_, rfl⟩
  have hle : w.heap.size ≤ gr := by omega
  rw [← hgr] at hrow ⊢
  clear hown hgrow hgr
  go_loopw [6, 7, 8] (fun v i _ wr => ∃ k Z : Nat, k ≤ g + 1 ∧ i = .int .i64 k ∧ v = .int .i64 Z ∧ Z = k * f ∧ TallyAt wr gr n (mOut f g k) ∧ Below w.heap.size w wr) (fun _ i _ _ => g + 1 - (intOf i).toNat)
  case atStart => exact ⟨0, 0, Nat.zero_le _, rfl, rfl, by simp, hrow, hB0⟩
  case round =>
    clear hrow hB0
    obtain ⟨k, Z, hk, rfl, rfl, hZ, hT, hB⟩ := hrel
    obtain ⟨wo, rfl⟩ : ∃ wo : World, wo = wr := ⟨_, rfl⟩
    by_cases hlt : k ≤ g
    · have hki : (k : Int) ≤ (g : Int) := by omega
      have hZ9 : Z ≤ 84 := by rw [hZ]; have := Nat.mul_le_mul (show k ≤ 7 by omega) hf; omega
      have HZ := Lib.hid hZ
      have hML := fun i => mOut_le f g hf1 i k
      have HML := Lib.hid hML
      have hp6 := Nat.mul_le_mul hf (pow_small12 hf (show g ≤ 8 by omega))
      have hf6 : f * f ^ g ≤ 12 * 2985984 := Nat.mul_le_mul hf (by
        calc f ^ g ≤ f ^ 6 := Nat.pow_le_pow_right hf1 hg
          _ ≤ 12 ^ 6 := Nat.pow_le_pow_left hf 6
          _ = 2985984 := by decide)
      have HF6 := Lib.hid hf6
      clear hZ hML hp6 hf6
      go_wp2_with fail
      go_loopw [8] (fun j wj => ∃ m : Nat, m ≤ f ∧ j = .int .i64 ((m : Int) + 1) ∧ TallyAt wj gr n (mIn (mOut f g k) f g k m) ∧ Below w.heap.size w wj) (fun j _ => f + 1 - (intOf j).toNat)
      case atStart => exact ⟨0, Nat.zero_le _, rfl, hT, hB⟩
      case round =>
        clear hT hB
        obtain ⟨m, hm, rfl, hT, hB⟩ := hrel
        by_cases hmf : m < f
        · have hmi : (m : Int) + 1 ≤ (f : Int) := by omega
          by_cases hw : m + 1 < f ∨ k = g
          · obtain ⟨x, hx⟩ : ∃ x, x = Z + (m + 1) := ⟨_, rfl⟩
            have hxi : (Z : Int) + ((m : Int) + 1) = (x : Int) := by omega
            have hxn : x < n := ag_idx HNF.out hlt (by rw [hx, HZ.out]) (by omega)
            have hxni : (x : Int) < (n : Int) := by omega
            have hx0 : (0 : Int) ≤ (x : Int) := by omega
            have c1 : wr.cell? ⟨gr, x, none⟩ = some (.int .i64 (mIn (mOut f g k) f g k m x : Nat)) := RowI.cell hT hxn
            have f1 := RowI.free hT x
            have hpw := fun w => diPower_any f (g - k) w hf (by omega)
            have hle1 := mIn_le (mOut f g k) f g k hf1 x m
            have hle2 := HML.out x
            have hle3 := Nat.mul_le_mul (show k ≤ 6 by omega) HF6.out
            have hle4 : m * f ^ g ≤ f * f ^ g := Nat.mul_le_mul_right _ hm
            have hp9 := pow_small12 hf (show g - k ≤ 8 by omega)
            obtain ⟨P, hP⟩ : ∃ P, P = f ^ (g - k) := ⟨_, rfl⟩
            obtain ⟨a, ha⟩ : ∃ a, a = mIn (mOut f g k) f g k m x := ⟨_, rfl⟩
            have hst : TallyAt (wr.setCell ⟨gr, x, none⟩ (.int .i64 ((a : Int) + P))) gr n (mIn (mOut f g k) f g k (m + 1)) := RowI.congr (RowI.set hT hxn ((a : Int) + P)) (fun i _ => by
              show _ = ((if (m + 1 < f ∨ k = g) ∧ i = k * f + (m + 1) then mIn (mOut f g k) f g k m i + f ^ (g - k) else mIn (mOut f g k) f g k m i : Nat) : Int)
              rw [← HZ.out, ← hx, ← hP]
              by_cases e : i = x
              · rw [if_pos e, if_pos ⟨hw, e⟩, e, ← ha]; push_cast; rfl
              · rw [if_neg e, if_neg (fun h => e h.2)])
            rw [← hP] at hpw hp9
            rw [← ha] at c1 hle1
            have ha9 : a ≤ 500000000 := by have := HF6.out; omega
            have hwa : IntKind.i64.wrap ((a : Int) + (P : Int)) = (a : Int) + (P : Int) := IntWalk.i64_in _ (by omega)
            have hwx : IntKind.i64.wrap ((Z : Int) + ((m : Int) + 1)) = (x : Int) := by rw [hxi]; exact IntWalk.i64_in _ (by omega)
            have hgk : IntKind.i64.wrap ((g : Int) - (k : Int)) = ((g - k : Nat) : Int) := by rw [IntWalk.i64_in _ (by omega)]; omega
            have HST := Lib.hid hst; have HPW := Lib.hid hpw
            have hlz := RowI.lt hT
            clear hst hpw hle1 hle2 hle3 hle4 hP ha hx hxi
            by_cases hmf2 : m + 1 < f
            · have hmfi : (m : Int) + 1 < (f : Int) := by omega
              clear hw
              go_wp2_with fail
              refine wp_region_still_tail 13 (by kernel_rfl) (by kernel_rfl) ?_
              simp only [List.take_succ_cons, List.take_zero, List.drop_succ_cons, List.drop_zero]
              still_step
              still_step
              still_step
              still_step
              still_step
              still_step
              still_step
              still_step
              still_step
              still_step
              still_call ((HPW.out wr.drew).mono (fun _ _ h => ⟨h.1, h.2.symm⟩))
              still_step
              still_step
              refine wpStill_nil ?_
              change wpList _ _ _ _ _ wr.drew
              go_wp2
              go_roundw
              case rel => exact ⟨m + 1, by omega, by go_num, RowI.drew HST.out, (hB.setCell hle _).drew⟩
              case measure => simp [intOf]; omega
            · have hmfi : ¬ (m : Int) + 1 < (f : Int) := by omega
              have hkg : ((k : Int) == (g : Int)) = true := by rw [beq_iff_eq]; rcases hw with h | h; exact absurd h hmf2; omega
              clear hw
              go_wp2_with fail
              refine wp_region_still_tail 13 (by kernel_rfl) (by kernel_rfl) ?_
              simp only [List.take_succ_cons, List.take_zero, List.drop_succ_cons, List.drop_zero]
              still_step
              still_step
              still_step
              still_step
              still_step
              still_step
              still_step
              still_step
              still_step
              still_step
              still_call ((HPW.out wr.drew).mono (fun _ _ h => ⟨h.1, h.2.symm⟩))
              still_step
              still_step
              refine wpStill_nil ?_
              change wpList _ _ _ _ _ wr.drew
              go_wp2
              go_roundw
              case rel => exact ⟨m + 1, by omega, by go_num, RowI.drew HST.out, (hB.setCell hle _).drew⟩
              case measure => simp [intOf]; omega
          · have hmfi : ¬ (m : Int) + 1 < (f : Int) := by omega
            have hkg : ((k : Int) == (g : Int)) = false := beq_eq_false_iff_ne.2 (by omega)
            have hst : TallyAt wr gr n (mIn (mOut f g k) f g k (m + 1)) := RowI.congr hT (fun i _ => by
              show _ = ((if (m + 1 < f ∨ k = g) ∧ i = k * f + (m + 1) then mIn (mOut f g k) f g k m i + f ^ (g - k) else mIn (mOut f g k) f g k m i : Nat) : Int)
              rw [if_neg (fun h => hw h.1)])
            have HST := Lib.hid hst
            clear hst hw
            go_wp2
            go_roundw
            case rel => exact ⟨m + 1, by omega, by go_num, HST.out, hB⟩
            case measure => simp [intOf]; omega
        · have hmi : ¬ (m : Int) + 1 ≤ (f : Int) := by omega
          obtain rfl : m = f := by omega
          have hT' : TallyAt wr gr n (mOut m g (k + 1)) := hT
          clear hT
          go_wp2
          go_roundw
          case rel => exact ⟨k + 1, Z + m, by omega, by go_num, by go_num, by rw [HZ.out, Nat.add_mul]; omega, hT', hB⟩
          case measure => simp [intOf]; omega
    · have hki : ¬ (k : Int) ≤ (g : Int) := by omega
      obtain rfl : k = g + 1 := by omega
      clear hZ
      go_wp2
      go_ret
      exact ⟨gr, rfl, hle, hT, hB⟩
end Go.Proofs.Ytblpfjjnlfjloab
