/-
  Tracks: the program's isPeaceful, standOf.
-/
import Derived.Test.YtbheegdmamcgaabC7jb
import Derived.Deep.RegionWith
namespace Go.Proofs.Ytbheegdmamcgaab
open Go.RowKit

set_option maxRecDepth 100000 in
set_option maxHeartbeats 2000000 in
theorem isPeaceful_any (g : Nat) (q f k : Int) (A : Option Addr) (c : Nat) (st sf : List Int) (w : World) (hR : RA w g 81 q f k A st.length c (safeB sf)) (hj : RI w w.heap.size A st) (F : Nat → Nat → Int) (h4 : 4 ≤ q) (h6 : q ≤ 60) (hk : 0 ≤ k) (hk4 : k ≤ 4) (hn : st.length ≤ 4) (h0 : ∀ p (h : p < st.length), 0 ≤ st[p] ∧ st[p] < q) :
    Calls Try.prog 125 #[.pointer (some ⟨g, 0, none⟩), .agg (standC F)] w fun e w' => e = .returned (.bool (peaceB q k st sf F)) ∧ Below w.heap.size w w' := by
  have hgw := hR.lt
  obtain ⟨r, hr⟩ : ∃ r, peaceB q k st sf F = r := ⟨_, rfl⟩
  rw [hr]
  have HR := Lib.hid hr
  clear hr
  have c0 := hR.c0
  go_enter Try.func125, Try.ntmps125
  go_wp2_with fail
  have hb0 : Below (w.heap.size + 1) (w.alloc (.cells (standC F) 84)) (w.alloc (.cells (standC F) 84)) := Below.refl _ _
  go_loopw [12] (fun i wr => ∃ s : Nat, (s : Int) ≤ q ∧ i = .int .i64 s ∧ Below (w.heap.size + 1) (w.alloc (.cells (standC F) 84)) wr ∧ Hid (∀ s' < s, okSq (safeB sf s') (pawnsL q k st F (s' : Int)) = true)) (fun i _ => q.toNat - (intOf i).toNat)
  case atStart => exact ⟨0, by omega, rfl, hb0, Lib.hid (fun s' h => by omega)⟩
  case round =>
    clear hb0
    obtain ⟨s, hs, rfl, hB, hok⟩ := hrel
    have hbw := (below1 w (.cells (standC F) 84)).trans (hB.mono (by omega))
    have hsz : w.heap.size + 1 ≤ wr.heap.size := by have := hB.size; simpa using this
    by_cases hlt : (s : Int) < q
    · have R1 := hR.below hbw hgw
      have D1 : DA wr w.heap.size 84 F := (hB.block _ (by omega)).trans (heap_alloc_at w _ _ rfl)
      have hP16 : (pawnsL q k st F (s : Int)).length ≤ 16 := pawnsL_len hn hk4
      obtain ⟨P, hP⟩ : ∃ P, pawnsL q k st F (s : Int) = P := ⟨_, rfl⟩
      rw [hP] at hP16
      have HP := Lib.hid hP
      clear hP
      go_wp2_with (refine wpList_load_row rfl 84 (.tmp 3) rfl w.heap.size rfl _ _ _ _ D1 Try.underlying84 rfl ?_ ?_; (rw [stand_size]; exact sizeStand))
      refine (pawnsOn_any g q f k A c (safeB sf) st _ R1 (hj.go hbw) F (s : Int) h4 h6 hk hk4 hn h0 (by omega)).mono ?_
      rintro e w3 ⟨v, rfl, hown, hx⟩
      rw [HP.out] at hown
      obtain ⟨Av, cv, rfl, hO⟩ := own_oj hown rfl
      have hB3 := box_on hB hx hsz
      clear hown R1 D1
      go_wp2_with fail
      go_loopw [20] (fun i wi => ∃ j : Nat, j ≤ P.length ∧ i = .int .i64 j ∧ Below (w.heap.size + 1) (w.alloc (.cells (standC F) 84)) wi ∧ OJ wi (wr.heap.size + 1) 90 Av P.length (fun y => P.getD y (0, 0)) ∧ Hid (∀ j' < j, (sentL (safeB sf s) P (P.getD j' (0, 0)).1).length = 0)) (fun i _ => P.length - (intOf i).toNat)
      case atStart => exact ⟨0, Nat.zero_le _, rfl, hB3, hO, Lib.hid (fun j h => by omega)⟩
      case round =>
        clear hB3 hO hx
        obtain ⟨j, hjl, rfl, hB3, hO, hno⟩ := hrel
        have hbw3 := (below1 w (.cells (standC F) 84)).trans (hB3.mono (by omega))
        have hsz3 : w.heap.size + 1 ≤ wr.heap.size := by have := hB3.size; simpa using this
        by_cases hjt : j < P.length
        · obtain ⟨gv, rfl, hgv, hrow⟩ := hO.get hjt
          have d1 := hrow.cell1 hjt
          have d2 := hrow.cell2 hjt
          obtain ⟨x, hx⟩ : ∃ x, x = (P.getD j (0, 0)).1 := ⟨_, rfl⟩
          obtain ⟨y, hy⟩ : ∃ y, y = (P.getD j (0, 0)).2 := ⟨_, rfl⟩
          rw [← hx] at d1
          rw [← hy] at d2
          have HX := Lib.hid hx
          clear hx hy
          have hbw4 := hbw3.alloc hbw3.size (.cells #[.int .i64 x, .int .i64 y] 90)
          have R4 := hR.below hbw4 hgw
          have D4 : DA (wr.alloc (.cells #[.int .i64 x, .int .i64 y] 90)) w.heap.size 84 F := DA.alloc ((hB3.block _ (by omega)).trans (heap_alloc_at w _ _ rfl)) _
          go_wp2_with (refine wpList_load_row rfl 84 (.tmp 3) rfl w.heap.size rfl _ _ _ _ D4 Try.underlying84 rfl ?_ ?_; (rw [stand_size]; exact sizeStand))
          refine (sentBy_any g q f k A c (safeB sf) st _ R4 (hj.go hbw4) F x s h4 h6 hk hk4 hn h0 hlt).mono ?_
          rintro e w5 ⟨A5, c5, rfl, _, hx5⟩
          rw [HP.out]
          have hB5 := box_on (hB3.alloc (by omega) (.cells #[.int .i64 x, .int .i64 y] 90)) hx5 (by simp; omega)
          have hO5 : OJ w5 (_ + 1) 90 (some ⟨gv, 0, none⟩) P.length (fun y => P.getD y (0, 0)) := .inr ⟨gv, rfl, hgv, (hrow.alloc _).below hx5 (by have := hrow.lt; simp; omega)⟩
          obtain ⟨m, hm⟩ : ∃ m, m = (sentL (safeB sf s) P x).length := ⟨_, rfl⟩
          have hm16 : m ≤ 16 := by rw [hm]; exact Nat.le_trans (sentL_len _ _ _) hP16
          rw [← hm]
          have HM := Lib.hid hm
          clear hm
          by_cases hm0 : 0 < m
          · have hmi : (0 : Int) < (m : Int) := by omega
            go_wp2
            go_ret
            exact ⟨ret_bool (by rw [← HR.out]; exact (peace_no hlt (by rw [HP.out]; exact okSq_sent hjt (by
              have := HX.out
              rw [List.getD_eq_getElem?_getD, List.getElem?_eq_getElem hjt] at this
              simp only [Option.getD_some] at this
              rw [← this, ← HM.out]; exact hm0))).symm), (below1 _ _).trans (hB5.mono (by omega))⟩
          · have hmi : ¬ (0 : Int) < (m : Int) := by omega
            go_wp2_with fail
            go_roundw
            case rel => exact ⟨j + 1, by omega, by go_num, hB5, hO5, Lib.hid (fun j' hj' => by
              by_cases e : j' = j
              · subst e; rw [← HX.out, ← HM.out]; omega
              · exact hno.out j' (by omega))⟩
            case measure => simp [intOf]; omega
        · obtain rfl : j = P.length := by omega
          go_wp2_with fail
          go_roundw
          case rel => exact ⟨s + 1, by omega, by go_num, hB3, Lib.hid (fun s' hs' => by
            by_cases e : s' = s
            · subst e; rw [HP.out]; exact okSq_none (fun i hi => by
                have := hno.out i hi
                rwa [List.getD_eq_getElem?_getD, List.getElem?_eq_getElem hi] at this)
            · exact hok.out s' (by omega))⟩
          case measure => simp [intOf]; omega
    · have hsq : (s : Int) = q := by omega
      have HSQ := Lib.hid hsq
      clear hsq
      go_wp2
      go_ret
      exact ⟨ret_bool (by rw [← HR.out]; exact (peace_yes (fun s' hs' => hok.out s' (by have := HSQ.out; omega))).symm), hbw⟩
end Go.Proofs.Ytbheegdmamcgaab
