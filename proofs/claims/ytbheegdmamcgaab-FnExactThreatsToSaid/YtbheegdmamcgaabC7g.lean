/-
  Tracks: the model's trState.
-/
import Derived.Test.YtbheegdmamcgaabC7f
namespace Go.Proofs.Ytbheegdmamcgaab
open Go.RowKit

theorem okSq_allD {S : Bool} {P : List (Int × Int)} (h : ∀ j < P.length, (P.getD j (0, 0)).1 = (P.getD 0 (0, 0)).1 ∨ S = true) : okSq S P = true := by
  refine okSq_all fun i hi => ?_
  have h1 := h i hi
  have h0 : P.getD 0 (0, 0) = P.headD (0, 0) := by
    match P with
    | [] => rfl
    | a :: t => rfl
  rw [h0, List.getD_eq_getElem?_getD, List.getElem?_eq_getElem hi] at h1
  exact h1
theorem okSq_headD {S : Bool} {P : List (Int × Int)} {j : Nat} (hj : j < P.length) (hS : S = false) (h : ¬ (P.getD j (0, 0)).1 = (P.getD 0 (0, 0)).1) : okSq S P = false := by
  refine okSq_head hj hS ?_
  have h0 : P.getD 0 (0, 0) = P.headD (0, 0) := by
    match P with
    | [] => rfl
    | a :: t => rfl
  rw [h0, List.getD_eq_getElem?_getD, List.getElem?_eq_getElem hj] at h
  exact h

set_option maxRecDepth 100000 in
set_option maxHeartbeats 2000000 in
theorem trState_any (q f k : Int) (A1 A2 A3 : Option Addr) (c1 c2 c3 : Nat) (st sf : List Int) (L : List (List Int)) (w : World) (h1 : RI w w.heap.size A1 st) (h2 : RI w w.heap.size A2 sf) (h3 : RG w w.heap.size A3 L) (hT : Trk q f k st sf) :
    Calls Try.prog 92 #[.agg #[.int .i64 q, .int .i64 f, .int .i64 k, .slice A1 st.length c1, .slice A2 sf.length c2], .slice A3 L.length c3] w fun e w' => e = .returned (.bool (stateB q k st sf L)) ∧ Below w.heap.size w w' := by
  obtain ⟨q4, q60, _, _, k1, k4, _, n4, hst, _, hsf⟩ := hT
  have hl3 := h3.1
  obtain ⟨r, hr⟩ : ∃ r, stateB q k st sf L = r := ⟨_, rfl⟩
  rw [hr]
  rw [stateB] at hr
  have HR := Lib.hid hr
  clear hr
  go_enter Try.func92, Try.ntmps92
  by_cases hlen : L.length = st.length
  case neg =>
    have hne : ((L.length : Int) != (st.length : Int)) = true := bne_iff_ne.2 (by omega)
    go_wp2
    go_ret
    exact ⟨ret_bool (by rw [← HR.out]; simp [hlen]), below1 _ _⟩
  have heq : ((L.length : Int) != (st.length : Int)) = false := bne_eq_false_iff_eq.2 (by omega)
  have HL := Lib.hid hlen
  have HR2 : Hid ((rowsB q k L && peaceB q k st sf (stF q L)) = r) := Lib.hid (by rw [← HR.out, hlen]; simp)
  clear hlen HR
  go_wp2
  clear heq
  go_loop [19] (fun i => ∃ j : Nat, j ≤ L.length ∧ i = .int .i64 j ∧ Hid (rowsB q k L = rowsB q k (L.drop j))) (fun i => L.length - (intOf i).toNat)
  case atStart => exact ⟨0, Nat.zero_le _, rfl, Lib.hid rfl⟩
  case round =>
    obtain ⟨j, hj, rfl, Hd⟩ := hrel
    have hb0 := below1 w (.cells #[.int .i64 q, .int .i64 f, .int .i64 k, .slice A1 st.length c1, .slice A2 sf.length c2] 44)
    by_cases hlt : j < L.length
    · obtain ⟨b, off, A', c', rfl, hb, hc, hrow⟩ := h3.at_ hb0 hlt
      have HD := Lib.hid (Hd.out.trans (rowsB_drop hlt))
      clear Hd
      have hrow' := hrow.more hb0.size
      have hxl := hrow.1
      cases ha : ((L[j].length : Int) == k) <;> cases hp : allB (-1) q L[j]
      case true.true =>
        have ha' : ((L[j].length : Int) != k) = false := by simpa using ha
        have HA := Lib.hid ha; have HP := Lib.hid hp
        clear ha hp
        go_wp2_with (go_at_call 84; refine (l1All_any _ _ _ _ _ _ hrow').mono ?_; rintro e w' ⟨rfl, rfl⟩; rw [HP.out])
        go_round
        case rel => exact ⟨j + 1, by omega, by go_num, Lib.hid (by rw [HD.out, HA.out, HP.out]; simp)⟩
        case measure => simp [intOf]; omega
      case true.false =>
        have ha' : ((L[j].length : Int) != k) = false := by simpa using ha
        have HA := Lib.hid ha; have HP := Lib.hid hp
        clear ha hp
        go_wp2_with (go_at_call 84; refine (l1All_any _ _ _ _ _ _ hrow').mono ?_; rintro e w' ⟨rfl, rfl⟩; rw [HP.out])
        go_ret
        exact ⟨ret_bool (by rw [← HR2.out, HD.out, HP.out]; simp), below1 _ _⟩
      all_goals
        have ha' : ((L[j].length : Int) != k) = true := by simpa using ha
        have HA := Lib.hid ha; have HP := Lib.hid hp
        clear ha hp
        go_wp2
        go_ret
        exact ⟨ret_bool (by rw [← HR2.out, HD.out, HA.out]; simp), below1 _ _⟩
    · obtain rfl : j = L.length := by omega
      have hrows : rowsB q k L = true := by rw [Hd.out, List.drop_eq_nil_of_le (Nat.le_refl _)]; rfl
      have hS := sta_of HL.out hrows
      have HR3 : Hid (peaceB q k st sf (stF q L) = r) := Lib.hid (by rw [← HR2.out, hrows]; simp)
      clear HR2 Hd hrows
      go_wp2
      have hbx : Below (w.heap.size + 1) (w.alloc (.cells #[.int .i64 q, .int .i64 f, .int .i64 k, .slice A1 st.length c1, .slice A2 sf.length c2] 44)) (w.alloc (.cells #[.int .i64 q, .int .i64 f, .int .i64 k, .slice A1 st.length c1, .slice A2 sf.length c2] 44)) := Below.refl _ _
      go_loopw [7] (fun i wr => ∃ s : Nat, (s : Int) ≤ q ∧ i = .int .i64 s ∧ Below (w.heap.size + 1) (w.alloc (.cells #[.int .i64 q, .int .i64 f, .int .i64 k, .slice A1 st.length c1, .slice A2 sf.length c2] 44)) wr ∧ Hid (∀ s' < s, okSq (safeB sf s') (pawnsL q k st (stF q L) (s' : Int)) = true)) (fun i _ => q.toNat - (intOf i).toNat)
      case atStart => exact ⟨0, by omega, rfl, hbx, Lib.hid (fun s' h => by omega)⟩
      case round =>
        clear hbx
        obtain ⟨s, hs, rfl, hB, hok⟩ := hrel
        have hbw := hb0.trans (hB.mono (by omega))
        have qq := boxcells hB
        by_cases hlt : (s : Int) < q
        · go_wp2_with fail
          refine (trAt_any q f k A1 A2 A3 c1 sf.length c2 c3 st L s _ (h1.go hbw) ((h3.below hbw).more hbw.size) q4 q60 (by omega) k4 n4 hst hS (by omega)).mono ?_
          rintro e w5 ⟨v, Bk, C, rfl, hG, hx5⟩
          have hP16 : (pawnsL q k st (stF q L) (s : Int)).length ≤ 16 := pawnsL_len n4 k4
          obtain ⟨P, hP⟩ : ∃ P, P = pawnsL q k st (stF q L) (s : Int) := ⟨_, rfl⟩
          have HP := Lib.hid hP
          rw [← hP] at hG hP16
          clear hP
          have hB5 := box_on hB hx5 (by have := hB.size; simpa using this)
          have hbw5 := hb0.trans (hB5.mono (by omega))
          have qq5 := boxcells hB5
          have r2 := h2.go hbw5
          clear qq
          obtain ⟨Av, cv, rfl⟩ := hG.slice
          go_wp2_with fail
          go_loopw [48] (fun i wi => ∃ j : Nat, j ≤ P.length ∧ i = .int .i64 j ∧ Below (w.heap.size + 1) (w.alloc (.cells #[.int .i64 q, .int .i64 f, .int .i64 k, .slice A1 st.length c1, .slice A2 sf.length c2] 44)) wi ∧ Grid wi wr.heap.size 25 3 (.slice Av P.length cv) P.length (fun _ => 2) (pF P) Bk C ∧ Hid (∀ j' < j, (P.getD j' (0, 0)).1 = (P.getD 0 (0, 0)).1 ∨ safeB sf s = true)) (fun i _ => P.length - (intOf i).toNat)
          case atStart => exact ⟨0, Nat.zero_le _, rfl, hB5, hG, Lib.hid (fun s' h => by omega)⟩
          case round =>
            clear hB5 hG hbw5 qq5 r2 hx5
            obtain ⟨i, hi, rfl, hB5, hG, hall⟩ := hrel
            have hbw5 := hb0.trans (hB5.mono (by omega))
            have qq5 := boxcells hB5
            have r2 := h2.go hbw5
            have hzz : w.heap.size < wr.heap.size := by have := hB5.size; simp at this; omega
            by_cases hil : i < P.length
            · obtain ⟨g, hA, _, _, ci, hri⟩ := hG.row hil
              obtain ⟨g', hA', _, _, c0, hr0⟩ := hG.row (show 0 < P.length by omega)
              simp only at hA hA'
              injection hA with hA _ _
              subst hA
              injection hA' with hA' _ _
              injection hA' with hA'
              injection hA' with hA' _ _
              subst hA'
              have di := hri.cell (k := 0) (by omega)
              have d0 := hr0.cell (k := 0) (by omega)
              simp only [pF, if_true] at di d0
              obtain ⟨x, hx⟩ : ∃ x, x = (P.getD i (0, 0)).1 := ⟨_, rfl⟩
              obtain ⟨y, hy⟩ : ∃ y, y = (P.getD 0 (0, 0)).1 := ⟨_, rfl⟩
              have HX := Lib.hid hx; have HY := Lib.hid hy
              rw [← hx] at di
              rw [← hy] at d0
              clear hx hy
              by_cases hxy : x = y
              · have he : (x != y) = false := by simpa using hxy
                have HXY := Lib.hid hxy
                clear hxy
                go_wp2_with fail
                go_quiet (fail)
                go_wp2_with fail
                go_roundw
                case rel => exact ⟨i + 1, by omega, by go_num, drewB hB5 _, hG.below (drewB (Below.refl _ _) _), Lib.hid (fun j' hj' => by
                  by_cases e : j' = i
                  · subst e; left; rw [← HX.out, ← HY.out, HXY.out]
                  · exact hall.out j' (by omega))⟩
                case measure => simp [intOf]; omega
              · have he : (x != y) = true := by simpa using hxy
                have HXY := Lib.hid hxy
                clear hxy
                cases hsafe : safeB sf s
                · have HSF := Lib.hid hsafe
                  have hf : hasB sf (s : Int) = false := hsafe
                  clear hsafe
                  have hcon : ∀ n, Calls Try.prog 105 #[.slice A2 sf.length c2, .int .i64 (s : Int)] (wr.drewN n) fun e w' => e = .returned (.bool false) ∧ w' = wr.drewN n := fun n => (l1Has_any A2 sf.length c2 sf (s : Int) (wr.drewN n) (r2.below (drewB (Below.refl _ _) n)) rfl).mono fun _ _ h => ⟨by rw [← hf]; exact h.1, h.2.symm⟩
                  clear hf
                  go_wp2_with fail
                  go_quiet (first | (go_at_call 105; with_reducible refine Calls.quiet_of_same (hcon _)))
                  go_wp2_with fail
                  go_ret
                  exact ⟨ret_bool (by rw [← HR3.out]; exact (peace_no hlt (by rw [← HP.out]; exact okSq_headD hil HSF.out (by rw [← HX.out, ← HY.out]; exact HXY.out))).symm), drewB hbw5 _⟩
                · have HSF := Lib.hid hsafe
                  have hf : hasB sf (s : Int) = true := hsafe
                  clear hsafe
                  have hcon : ∀ n, Calls Try.prog 105 #[.slice A2 sf.length c2, .int .i64 (s : Int)] (wr.drewN n) fun e w' => e = .returned (.bool true) ∧ w' = wr.drewN n := fun n => (l1Has_any A2 sf.length c2 sf (s : Int) (wr.drewN n) (r2.below (drewB (Below.refl _ _) n)) rfl).mono fun _ _ h => ⟨by rw [← hf]; exact h.1, h.2.symm⟩
                  clear hf
                  go_wp2_with fail
                  go_quiet (first | (go_at_call 105; with_reducible refine Calls.quiet_of_same (hcon _)))
                  go_wp2_with fail
                  go_roundw
                  case rel => exact ⟨i + 1, by omega, by go_num, drewB hB5 _, hG.below (drewB (Below.refl _ _) _), Lib.hid (fun j' _ => .inr (by first | trivial | exact HSF.out))⟩
                  case measure => simp [intOf]; omega
            · obtain rfl : i = P.length := by omega
              go_wp2_with fail
              go_roundw
              case rel => exact ⟨s + 1, by omega, by go_num, hB5, Lib.hid (fun s' hs' => by
                by_cases e : s' = s
                · subst e; rw [← HP.out]; exact okSq_allD hall.out
                · exact hok.out s' (by omega))⟩
              case measure => simp [intOf]; omega
        · have hsq : (s : Int) = q := by omega
          have HSQ := Lib.hid hsq
          clear hsq
          go_wp2
          go_ret
          exact ⟨ret_bool (by rw [← HR3.out]; exact (peace_yes (fun s' hs' => hok.out s' (by have := HSQ.out; omega))).symm), hbw⟩
end Go.Proofs.Ytbheegdmamcgaab
