/- Several texts, one behind the other: C6b C6e. -/
import Derived.ChangeKeysEq
import Derived.Test.YtnohpclaccaijabZdab
import Derived.Test.YtnohpclaccaijabZdad

namespace Go.Proofs.Ytnohpclaccaijab
open Go.RowKit

set_option maxRecDepth 100000 in
set_option maxHeartbeats 1000000 in
theorem throwNext_any (d f : Nat) (t y : List Nat) (w : World) (hd1 : 1 ≤ d) (hd : d ≤ 8) (hf : f ≤ 12) (ht : t ∈ ups d f) (hy : nxl f t = some y) :
    Calls Try.prog 96 #[.agg #[.int .i64 d, .int .i64 f], .agg (thC (gt t))] w fun e w' => e = .returned (.agg (thC (gt y))) ∧ Below w.heap.size w w' := by
  have hz := zeroThr
  have hT0 : TA (((w.alloc (.cells #[.int .i64 d, .int .i64 f] 61)).alloc (.cells (thC (gt t)) 67)).alloc (.cells (thC (fun _ => 0)) 67)) (w.heap.size + 1) 67 (gt t) := (Below.heap_alloc _ _ _ (by simp)).trans (heap_alloc_at _ _ _ (by simp))
  have hR0 : TA (((w.alloc (.cells #[.int .i64 d, .int .i64 f] 61)).alloc (.cells (thC (gt t)) 67)).alloc (.cells (thC (fun _ => 0)) 67)) (w.heap.size + 2) 67 (fun _ => 0) := heap_alloc_at _ _ _ (by simp)
  have HT0 := Lib.hid hT0; have HR0 := Lib.hid hR0
  clear hT0 hR0
  have hw1 : IntKind.i64.wrap ((d : Int) - 1) = (d : Int) - 1 := IntWalk.i64_in _ (by omega)
  go_enter Try.func96, Try.ntmps96
  go_wp2_with fail
  go_loopw [5] (fun i wr => ∃ j : Nat, j < d ∧ i = .int .i64 j ∧ Below w.heap.size w wr ∧ (∀ i, j ≤ i → i < d → gt t i = gt t j) ∧ TA wr (w.heap.size + 2) 67 (fun _ => 0) ∧ TA wr (w.heap.size + 1) 67 (fun i => if j < i ∧ i < d then 1 else gt t i)) (fun i _ => (intOf i).toNat)
  case atStart => exact ⟨d - 1, by omega, by congr 1; omega, below3 _ _ _ _, fun i h1 h2 => by congr 1; omega, HR0.out, HT0.out.congr (fun i _ => by rw [if_neg (by omega)])⟩
  case round =>
    clear HR0 HT0 hw1
    obtain ⟨j, hj, rfl, hB, he, hR, hT⟩ := hrel
    have HE := Lib.hid he; clear he
    have c1 := hT.at_ (show j < 8 by omega)
    rw [if_neg (by omega)] at c1
    have fr := hT.free j
    have hj8 : (j : Int) < 8 := by omega
    by_cases hg : 0 < j ∧ gt t j = gt t (j - 1)
    · obtain ⟨h0, hg⟩ := hg
      obtain ⟨m, rfl⟩ : ∃ m, j = m + 1 := ⟨j - 1, by omega⟩
      rw [Nat.add_sub_cancel] at hg
      have c2 := hT.at_ (show m < 8 by omega)
      rw [if_neg (by omega)] at c2
      have hd0 : decide (0 < ((m + 1 : Nat) : Int)) = true := by simp
      have hw1 : IntKind.i64.wrap (((m + 1 : Nat) : Int) - 1) = (m : Int) := by rw [IntWalk.i64_in _ (by omega)]; omega
      have hm0 : (0 : Int) ≤ (m : Int) := by omega
      have hm8 : (m : Int) < 8 := by omega
      have hn0 : (0 : Int) ≤ ((m + 1 : Nat) : Int) := by omega
      have hn8 : ((m + 1 : Nat) : Int) < 8 := by omega
      rw [hg] at c1
      have HG := Lib.hid hg; clear hg
      go_wp2_with fail
      go_quiet (fail)
      go_wp2
      go_roundw
      case rel => exact ⟨m, by omega, rfl, (drewB hB _).setCell (show w.heap.size ≤ w.heap.size + 1 by omega) _, fun i h1 h2 => by
        by_cases e : i = m
        · rw [e]
        · rw [HE.out i (by omega) h2, HG.out], (hR.drewN _).far (by simp) _, ((hT.drewN _).set (show m + 1 < 8 by omega) 1).congr (fun i _ => by
          simp only [updT]
          by_cases h1 : i = m + 1
          · rw [if_pos h1, if_pos (by omega)]
          · rw [if_neg h1]
            by_cases h2 : m < i ∧ i < d
            · rw [if_pos h2, if_pos (by omega)]
            · rw [if_neg h2, if_neg (by omega)])⟩
      case measure => simp [intOf]
    · have hns : j = 0 ∨ gt t j ≠ gt t (j - 1) := by
        rcases Nat.eq_zero_or_pos j with h | h
        · exact .inl h
        · exact .inr fun e => hg ⟨h, e⟩
      clear hg
      have hv : TA (wr.setCell ⟨w.heap.size + 1, j, none⟩ (.int .i64 ((gt t j + 1 : Nat) : Int))) (w.heap.size + 1) 67 (gt y) := (hT.set (show j < 8 by omega) (gt t j + 1)).congr (fun i _ => by
        rw [gt_next ht hy hj HE.out hns i]; rfl)
      have hR2 : TA (wr.setCell ⟨w.heap.size + 1, j, none⟩ (.int .i64 ((gt t j + 1 : Nat) : Int))) (w.heap.size + 2) 67 (fun _ => 0) := hR.far (by simp) _
      have hB2 : Below w.heap.size w (wr.setCell ⟨w.heap.size + 1, j, none⟩ (.int .i64 ((gt t j + 1 : Nat) : Int))) := hB.setCell (show w.heap.size ≤ w.heap.size + 1 by omega) _
      have hgb := gt_le ht j
      have hw3 : ((gt t j + 1 : Nat) : Int) = (gt t j : Int) + 1 := by omega
      rw [hw3] at hv hR2 hB2
      clear hw3
      have HV := Lib.hid hv; have HR := Lib.hid hR2; have HB := Lib.hid hB2
      clear hv hR2 hB2
      obtain ⟨a, ha⟩ : ∃ a, a = gt t j := ⟨_, rfl⟩
      rw [← ha] at c1 hgb HV HR HB
      by_cases h0 : j = 0
      · subst h0
        clear hns ha
        go_wp2_with fail
        go_quiet (fail)
        go_wp2_with (first | (refine wpList_load_row rfl 67 (.tmp 3) rfl (w.heap.size + 1) rfl _ _ _ _ (HV.out.drewN _) Try.underlying67 rfl ?_ ?_; (rw [thC_size]; exact sizeThr)) | (refine wpList_store_row rfl 67 (.tmp 4) (.tmp 30) rfl (w.heap.size + 2) rfl _ _ _ rfl (HR.out.drewN _) ?_ ?_ (thC_one _) ?_; (rw [thC_size, thC_size]); (rw [thC_size]; exact sizeThr); intro w4 hC4 hg4 hs4))
        exact bodyPost_ret (v := .agg (thC (gt y))) (results_cell1k Try.results96 _ _ _ _ _ _ _ rfl hC4 Try.underlying67 rfl (by rw [thC_size]; exact sizeThr)) rfl
          ⟨rfl, (drewB HB.out nq).grown hg4 (drewB HB.out nq).size (fun k h => by cases h; omega)⟩
      · obtain ⟨m, rfl⟩ : ∃ m, j = m + 1 := ⟨j - 1, by omega⟩
        rw [Nat.add_sub_cancel] at hns
        have hne : a ≠ gt t m := by rcases hns with h | h; exact absurd h h0; rw [ha]; exact h
        have c2 := hT.at_ (show m < 8 by omega)
        rw [if_neg (by omega)] at c2
        obtain ⟨b, hb⟩ : ∃ b, b = gt t m := ⟨_, rfl⟩
        rw [← hb] at c2 hne
        have hdb : ((a : Int) == (b : Int)) = false := beq_eq_false_iff_ne.2 (by omega)
        have hd0 : decide (0 < ((m + 1 : Nat) : Int)) = true := by simp
        have hw1 : IntKind.i64.wrap (((m + 1 : Nat) : Int) - 1) = (m : Int) := by rw [IntWalk.i64_in _ (by omega)]; omega
        have hm0 : (0 : Int) ≤ (m : Int) := by omega
        have hm8 : (m : Int) < 8 := by omega
        have hn0 : (0 : Int) ≤ ((m + 1 : Nat) : Int) := by omega
        have hn8 : ((m + 1 : Nat) : Int) < 8 := by omega
        clear hns ha hb hne h0
        go_wp2_with fail
        go_quiet (fail)
        go_wp2_with (first | (refine wpList_load_row rfl 67 (.tmp 3) rfl (w.heap.size + 1) rfl _ _ _ _ (HV.out.drewN _) Try.underlying67 rfl ?_ ?_; (rw [thC_size]; exact sizeThr)) | (refine wpList_store_row rfl 67 (.tmp 4) (.tmp 30) rfl (w.heap.size + 2) rfl _ _ _ rfl (HR.out.drewN _) ?_ ?_ (thC_one _) ?_; (rw [thC_size, thC_size]); (rw [thC_size]; exact sizeThr); intro w4 hC4 hg4 hs4))
        exact bodyPost_ret (v := .agg (thC (gt y))) (results_cell1k Try.results96 _ _ _ _ _ _ _ rfl hC4 Try.underlying67 rfl (by rw [thC_size]; exact sizeThr)) rfl
          ⟨rfl, (drewB HB.out nq).grown hg4 (drewB HB.out nq).size (fun k h => by cases h; omega)⟩

set_option maxRecDepth 100000 in
set_option maxHeartbeats 1000000 in
theorem orders_any (d f : Nat) (t : List Nat) (w : World) (hd : d ≤ 8) (_ : f ≤ 12) (ht : t ∈ ups d f) :
    Calls Try.prog 97 #[.agg #[.int .i64 d, .int .i64 f], .agg (thC (gt t))] w fun e w' => e = .returned (.int .i64 (ordN t : Nat)) ∧ Below w.heap.size w w' := by
  have hl := ups_len d f t ht
  have hT0 : TA ((w.alloc (.cells #[.int .i64 d, .int .i64 f] 61)).alloc (.cells (thC (gt t)) 67)) (w.heap.size + 1) 67 (gt t) := heap_alloc_at _ _ _ (by simp)
  have HT0 := Lib.hid hT0
  have HL := Lib.hid hl
  clear hT0 hl
  go_enter Try.func97, Try.ntmps97
  go_wp2_with fail
  go_loopw [5, 6, 7, 10] (fun o s _ i wr => ∃ k : Nat, k ≤ d ∧ i = .int .i64 k ∧ Below w.heap.size w wr ∧ TA wr (w.heap.size + 1) 67 (gt t) ∧ o = .int .i64 (ordN (t.take k) : Nat) ∧ s = .int .i64 (same t k : Nat)) (fun _ _ _ i _ => d - (intOf i).toNat)
  case atStart => exact ⟨0, by omega, rfl, below2 _ _ _, HT0.out, by simp [ordN_nil], by simp [same]⟩
  case round =>
    clear HT0
    obtain ⟨k, hk, rfl, hB, hT, rfl, rfl⟩ := hrel
    by_cases hlt : k < d
    · have c1 := hT.at_ (show k < 8 by omega)
      have hos := ord_step ht hlt
      have hsm := ord_small ht hk hd
      have hsm2 := ord_small ht (show k + 1 ≤ d by omega) hd
      have hgb := gt_le ht k
      have hs1 := same_pos t k (by rw [HL.out]; exact hlt)
      have hs9 := same_le t (k + 1)
      obtain ⟨O, hO⟩ : ∃ O, O = ordN (t.take k) := ⟨_, rfl⟩
      obtain ⟨O2, hO2⟩ : ∃ O2, O2 = ordN (t.take (k + 1)) := ⟨_, rfl⟩
      obtain ⟨S2, hS2⟩ : ∃ S2, S2 = same t (k + 1) := ⟨_, rfl⟩
      rw [← hO, ← hO2, ← hS2] at hos
      rw [← hO] at hsm
      rw [← hO2] at hsm2
      rw [← hS2] at hs1 hs9
      rw [← hO]
      obtain ⟨P, hPO⟩ : ∃ P : Nat, P = O * (k + 1) := ⟨_, rfl⟩
      have hP : (O : Int) * ((k : Int) + 1) = (P : Int) := by rw [hPO]; push_cast; rfl
      have hPs : P ≤ 322560 := by rw [hPO]; exact Nat.mul_le_mul hsm (show k + 1 ≤ 8 by omega)
      rw [← hPO] at hos
      have hq : (P : Int) / (S2 : Int) = (O2 : Int) := by rw [← hos]; rfl
      have HQ := Lib.hid hq; have HO2 := Lib.hid hO2; have HPO := Lib.hid hPO; have HS2 := Lib.hid hS2
      have hk8 : (k : Int) < 8 := by omega
      have hS2p : (0 : Int) < (S2 : Int) := by omega
      have hS2n : (S2 : Int) ≠ 0 := by omega
      clear hO hO2 hos hPO hq hS2 hgb
      by_cases h0 : k = 0
      · subst h0
        have e1 : S2 = 1 := by rw [HS2.out]; exact same_new ht hlt (.inl rfl)
        subst e1
        have e0 : same t 0 = 0 := rfl
        rw [e0]
        clear e0
        go_wp2_with fail
        go_quiet (fail)
        go_wp2
        go_roundw
        case rel => exact ⟨1, by omega, rfl, drewB hB _, hT.drewN _, by
          have h1 := HQ.out
          have h2 := HPO.out
          rw [HO2.out, h2] at h1
          simpa using h1, by rw [← HS2.out]; rfl⟩
        case measure => simp [intOf]; omega
      · obtain ⟨m, rfl⟩ : ∃ m, k = m + 1 := ⟨k - 1, by omega⟩
        have c2 := hT.at_ (show m < 8 by omega)
        have hP' : (O : Int) * ((m : Int) + 1 + 1) = (P : Int) := by rw [← hP]; push_cast; rfl
        clear hP
        have hd0 : decide (0 < ((m + 1 : Nat) : Int)) = true := by simp
        have hw1 : IntKind.i64.wrap (((m + 1 : Nat) : Int) - 1) = (m : Int) := by rw [IntWalk.i64_in _ (by omega)]; omega
        have hm0 : (0 : Int) ≤ (m : Int) := by omega
        have hm8 : (m : Int) < 8 := by omega
        have hn0 : (0 : Int) ≤ ((m + 1 : Nat) : Int) := by omega
        have hn8 : ((m + 1 : Nat) : Int) < 8 := by omega
        have hsl := same_le t (m + 1)
        by_cases he : gt t (m + 1) = gt t m
        · have e1 : S2 = same t (m + 1) + 1 := by rw [HS2.out]; exact same_keep (by rw [HL.out]; exact hlt) (by omega) he
          obtain ⟨S1, hS1⟩ : ∃ S1, S1 = same t (m + 1) := ⟨_, rfl⟩
          rw [← hS1] at e1 hsl ⊢
          subst e1
          rw [he] at c1
          have hnb : ((gt t m : Int) != (gt t m : Int)) = false := by simp
          have hqq : (P : Int) / ((S1 : Int) + 1) = (O2 : Int) := by rw [← HQ.out]; rfl
          clear he hS1 h0
          go_wp2_with fail
          go_quiet (fail)
          go_wp2
          go_roundw
          case rel => exact ⟨m + 1 + 1, by omega, rfl, drewB hB _, hT.drewN _, by rw [← HO2.out], by rw [← HS2.out]; rfl⟩
          case measure => simp [intOf]; omega
        · have e1 : S2 = 1 := by rw [HS2.out]; exact same_new ht hlt (.inr he)
          subst e1
          obtain ⟨S1, hS1⟩ : ∃ S1, S1 = same t (m + 1) := ⟨_, rfl⟩
          rw [← hS1]
          obtain ⟨a, ha⟩ : ∃ a, a = gt t (m + 1) := ⟨_, rfl⟩
          obtain ⟨b, hb⟩ : ∃ b, b = gt t m := ⟨_, rfl⟩
          rw [← ha] at c1 he
          rw [← hb] at c2 he
          have hnb : ((a : Int) != (b : Int)) = true := by simp; omega
          clear he hS1 h0 ha hb hsl
          go_wp2_with fail
          go_quiet (fail)
          go_wp2
          go_roundw
          case rel => exact ⟨m + 1 + 1, by omega, rfl, drewB hB _, hT.drewN _, by rw [← HO2.out, ← HQ.out]; simp, by rw [← HS2.out]; rfl⟩
          case measure => simp [intOf]; omega
    · obtain rfl : k = d := by omega
      rw [show t.take k = t from List.take_of_length_le (by rw [HL.out]; omega)]
      go_wp2
      go_ret
      exact ⟨rfl, hB⟩
end Go.Proofs.Ytnohpclaccaijab

namespace Go.Proofs.Ytnohpclaccaijab
open Go.RowKit

theorem cells_intT : Try.prog.cellsOf 3 = 1 := by kernel_rfl
theorem zero_intT (w : World) : (zeroValue 3).run Try.prog w = .ok (.int .i64 0) w := by kernel_rfl
def thEq (S T : Nat → Nat) : Bool := (List.range 8).all fun i => S i == T i
theorem thEq_yes {S T : Nat → Nat} (h : ∀ i, S i = T i) : thEq S T = true := by simp [thEq, h]
theorem thEq_no {S T : Nat → Nat} {i : Nat} (hi : i < 8) (h : S i ≠ T i) : thEq S T = false := by
  rw [Bool.eq_false_iff]
  intro e
  unfold thEq at e
  rw [List.all_eq_true] at e
  exact h (by simpa using e i (by simpa using hi))
theorem part_thr (T : Nat → Nat) (i : Nat) (hi : i < 8) (w : World) : (part 3 (thC T) (i * 1)).run Try.prog w = .ok (.int .i64 (T i)) w := by
  obtain ⟨i0, h0, _, h2, _⟩ := info_parts infoInt1
  have := thC_at T hi
  simp [part, go_sem, this]
theorem eq_items (S T : Nat → Nat) : ∀ (is : List Nat) (w : World), (∀ i ∈ is, i < 8) → (Op.eqItems 9999 3 1 (thC S) (thC T) is).run Try.prog w = .ok (is.all fun i => S i == T i) w
  | [], w, _ => by simp [Op.eqItems]
  | i :: is, w, h => by
    have h1 := part_thr S i (h i (by simp)) w
    have h2 := part_thr T i (h i (by simp)) w
    have ih := eq_items S T is w (fun j hj => h j (by simp [hj]))
    have he : (Op.equalIn 9999 3 (.int .i64 (S i : Nat)) (.int .i64 (T i : Nat))).run Try.prog w = .ok (S i == T i) w := by
      have hc : (((S i : Nat) : Int) == ((T i : Nat) : Int)) = (S i == T i) := by rw [Bool.eq_iff_iff]; simp; omega
      simp [go_sem, hc]
    simp only [Op.eqItems, Sem.run_bind, h1, h2, he, Result.andThen_ok, List.all_cons]
    cases hb : (S i == T i)
    · simp
    · simpa using ih
theorem eq_throws (S T : Nat → Nat) (w : World) : (Op.equalIn 10000 67 (.agg (thC S)) (.agg (thC T))).run Try.prog w = .ok (thEq S T) w := by
  obtain ⟨i0, hi, _, _, _⟩ := info_parts infoInt1
  have e : (Op.equalIn 10000 67 (.agg (thC S)) (.agg (thC T))).run Try.prog w = (Op.eqItems 9999 3 1 (thC S) (thC T) (List.range 8)).run Try.prog w := by
    rw [← cells_intT]
    exact run_equalIn_array w 9999 _ _ Try.underlying67 hi
  rw [e]
  exact eq_items S T _ w (fun i hi => by simpa using hi)
end Go.Proofs.Ytnohpclaccaijab
