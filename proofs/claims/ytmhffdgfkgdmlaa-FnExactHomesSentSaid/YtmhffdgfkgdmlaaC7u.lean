/-
  Tracks: the program's behind.
-/
import Derived.Test.YtmhffdgfkgdmlaaC7t
import Derived.BigRegion
namespace Go.Proofs.Ytmhffdgfkgdmlaa
open Go.RowKit

set_option maxRecDepth 100000 in
set_option maxHeartbeats 4000000 in
theorem behind_any (g : Nat) (q f k : Int) (A : Option Addr) (c : Nat) (st sf : List Int) (w : World) (hR : RA w g 75 q f k A st.length c (safeB sf)) (hj : RI w w.heap.size A st) (F : Nat → Nat → Int) (p t : Nat) (face : Int) (h4 : 4 ≤ q) (h6 : q ≤ 60) (hk : 1 ≤ k) (hk4 : k ≤ 4) (hn : st.length ≤ 4) (h0 : ∀ p (h : p < st.length), 0 ≤ st[p] ∧ st[p] < q)
    (hp : p < st.length) (ht : t < 4) (hx0 : -1 ≤ F p t) (hx1 : F p t ≤ q) (hf1 : 1 ≤ face) (hf8 : face ≤ 8) (V : Nat → Nat → Int) (m : Int) (r : Bool) (hr : canB q f (F p t) face = r) (hV0 : r = false → V = F ∧ m = 0) (hV1 : r = true → V = goF q k st sf F p t face ∧ m = ((goL q k st sf F p t face).length : Int)) :
    Calls Try.prog 110 #[.pointer (some ⟨g, 0, none⟩), .agg (standC F), .agg #[.int .i64 (p : Int), .int .i64 (t : Int), .int .i64 face]] w fun e w' => e = .returned (.tuple #[.agg (standC V), .int .i64 m, .bool r]) ∧ Below w.heap.size w w' := by
  have hgw := hR.lt
  have z1 := zeroStand
  have hp4 : p < 4 := by omega
  have ht4 : t < 4 := by omega
  have q1 : (p : Int) < 4 := by omega
  have q2 : (t : Int) < 4 := by omega
  obtain ⟨x, hx⟩ : ∃ x, x = F p t := ⟨_, rfl⟩
  obtain ⟨y, hy⟩ : ∃ y, y = (if canB q f x face = true then newX x face else x) := ⟨_, rfl⟩
  have hyb : 0 ≤ y ∧ y ≤ q ∨ y = x := by
    rw [hy]; split
    · rename_i h; exact .inl (newX_bd (by omega) hf1 h)
    · exact .inr rfl
  rw [← hx] at hx0 hx1 hr
  have HX := Lib.hid hx; have HY := Lib.hid hy; have HR := Lib.hid hr; have HV0 := Lib.hid hV0; have HV1 := Lib.hid hV1
  clear hx hy hr hV0 hV1
  go_enter Try.func110, Try.ntmps110
  have D0 : DA (((w.alloc (.cells (standC F) 78)).alloc (.cells #[.int .i64 (p : Int), .int .i64 (t : Int), .int .i64 face] 166)).alloc (.cells (standC (fun _ _ => 0)) 78)) w.heap.size 78 F := (Below.heap_alloc _ _ _ (by simp; omega)).trans ((Below.heap_alloc _ _ _ (by simp)).trans (heap_alloc_at w _ _ rfl))
  go_wp2_with (first | (refine wpList_load_row rfl 78 (.tmp 4) rfl w.heap.size rfl _ _ _ _ D0 Try.underlying78 rfl ?_ ?_; (rw [stand_size]; exact sizeStand)) | (refine wpList_store_row rfl 78 (.tmp 9) _ rfl (w.heap.size + 1 + 1 + 1) rfl _ _ (standC F) rfl (heap_alloc_at _ _ _ (by simp)) ?_ ?_ (stand_one _) ?_; (simp only [stand_size]); (rw [stand_size]; exact sizeStand); intro w3 hC3 hg3 hs3))
  have hb3 : Below w.heap.size w w3 := ((below3 w _ _ _).alloc (by simp; omega) _).grown hg3 (by simp; omega) (fun k h => by injection h with h; omega)
  have D3 : DA w3 w.heap.size 78 F := (hg3.block _ (by simp <;> omega) (by simp <;> omega)).trans ((Below.heap_alloc _ _ _ (by simp <;> omega)).trans D0)
  have M3 : w3.heap[w.heap.size + 1]? = some (.cells #[.int .i64 (p : Int), .int .i64 (t : Int), .int .i64 face] 166 (0, 0)) := (hg3.block _ (by simp <;> omega) (by simp)).trans ((Below.heap_alloc _ _ _ (by simp <;> omega)).trans ((Below.heap_alloc _ _ _ (by simp)).trans (heap_alloc_at _ _ _ (by simp))))
  have Z3 : DA w3 (w.heap.size + 1 + 1) 78 (fun _ _ => 0) := (hg3.block _ (by simp) (by simp)).trans ((Below.heap_alloc _ _ _ (by simp)).trans (heap_alloc_at _ _ _ (by simp)))
  have N3 : DA w3 (w.heap.size + 1 + 1 + 1) 78 F := hC3
  have hz3 := N3.lt
  clear hg3 hC3 D0 hs3
  obtain ⟨a, ha⟩ : ∃ a, a = w.heap.size := ⟨_, rfl⟩
  have hgb : g ≠ a + 3 := by omega
  have hga : g < a := by omega
  rw [← ha] at D3 M3 Z3 N3 hz3 ⊢
  have HA := Lib.hid ha
  have R3 := hR.below hb3 hgw
  have qm := fun i => cell_of_row w3 (a + 1) i _ _ _ M3
  clear ha
  go_quiet (fail)
  have D4 := D3.drewN nq
  have N4 := N3.drewN nq
  have Z4 := Z3.drewN nq
  have R4 := R3.drewN nq
  have hb4 := drewB hb3 nq
  have M4 : (w3.drewN nq).heap[a + 1]? = some (.cells #[.int .i64 (p : Int), .int .i64 (t : Int), .int .i64 face] 166 (0, 0)) := M3
  have hz4 : a + 1 + 1 + 1 < (w3.drewN nq).heap.size := hz3
  clear D3 N3 Z3 R3 hb3 M3 qm hz3
  generalize w3.drewN nq = w4 at *
  have qm := fun i => cell_of_row w4 (a + 1) i _ _ _ M4
  have dn := N4.at_ hp4 ht4
  have fn := N4.free (p * 4 + t)
  rw [← HX.out] at dn
  go_wp2_with fail
  go_region_with (go_at_call 129; refine (stepsBehind_any g q f k A st.length c (safeB sf) x face _ (R4.drewN _) hx0 hx1 h6 hf1 hf8).mono ?_; rintro e w' ⟨rfl, rfl⟩; rw [← HY.out])
  all_goals
    have N5 : DA ((w4.drewN 1).setCell ⟨a + 1 + 1 + 1, p * 4 + t, none⟩ (.int .i64 y)) (a + 1 + 1 + 1) 78 (updX F p t y) := (N4.drewN 1).set hp4 ht4 y
    have D5 := (D4.drewN 1).far (p := ⟨a + 1 + 1 + 1, p * 4 + t, none⟩) (by dsimp only; omega) (.int .i64 y)
    have Z5 := (Z4.drewN 1).far (p := ⟨a + 1 + 1 + 1, p * 4 + t, none⟩) (by dsimp only; omega) (.int .i64 y)
    have R5 := (R4.drewN 1).far (p := ⟨a + 1 + 1 + 1, p * 4 + t, none⟩) (by dsimp only; omega) (.int .i64 y)
    have M5 : ((w4.drewN 1).setCell ⟨a + 1 + 1 + 1, p * 4 + t, none⟩ (.int .i64 y)).heap[a + 1]? = some (.cells #[.int .i64 (p : Int), .int .i64 (t : Int), .int .i64 face] 166 (0, 0)) := (Below.heap_setCell _ _ _ _ (by dsimp only; omega)).trans M4
    have hb5 : Below w.heap.size w ((w4.drewN 1).setCell ⟨a + 1 + 1 + 1, p * 4 + t, none⟩ (.int .i64 y)) := (drewB hb4 1).setCell (by dsimp only; have := HA.out; omega) _
    clear D4 N4 Z4 R4 hb4 M4 qm hz4 dn fn
    generalize ((w4.drewN 1).setCell ⟨a + 1 + 1 + 1, p * 4 + t, none⟩ (.int .i64 y)) = w5 at *
    cases r
    · have hyx : y = x := by rw [HY.out, HR.out]; rfl
      have hFF : eqF (updX F p t y) F = true := eqF_yes (fun u _ v _ => by
        simp only [updX]
        split
        · rename_i h; rw [h.1, h.2, hyx, HX.out]
        · rfl)
      have heq : ∀ w : World, (Op.equalIn 10000 78 (.agg (standC (updX F p t y))) (.agg (standC F))).run Try.prog w = .ok true w := fun w => by rw [eql_stands, hFF]
      have HYX := Lib.hid hyx
      clear hFF hyx
      obtain ⟨hVF, hm0⟩ := HV0.out rfl
      have HVF := Lib.hid hVF; have HM0 := Lib.hid hm0
      clear hVF hm0
      go_wp2_with (first | (refine wpList_load_row rfl 78 (.tmp 9) rfl (a + 1 + 1 + 1) rfl _ _ _ _ N5 Try.underlying78 rfl ?_ ?_; (rw [stand_size]; exact sizeStand)) | (refine wpList_load_row rfl 78 (.tmp 4) rfl a rfl _ _ _ _ D5 Try.underlying78 rfl ?_ ?_; (rw [stand_size]; exact sizeStand)) | (refine wpList_store_row rfl 78 (.tmp 6) _ rfl (a + 1 + 1) rfl _ _ _ rfl Z5 ?_ ?_ (stand_one _) ?_; (simp only [stand_size]); (rw [stand_size]; exact sizeStand); intro w6 hC6 hg6 hs6))
      exact bodyPost_ret (v := .tuple #[.agg (standC F), .int .i64 0, .bool false]) (results_cell_slots2 Try.results110 _ _ _ _ _ _ _ _ _ rfl rfl rfl hC6 Try.underlying78 rfl (by rw [stand_size]; exact sizeStand)) rfl
        ⟨by rw [HVF.out, HM0.out], hb5.grown hg6 hb5.size (fun k h => by injection h with h; have := HA.out; omega)⟩
    · have hyn : y = newX x face := by rw [HY.out, HR.out]; rfl
      have hnb := newX_bd (by omega) hf1 HR.out
      have hnx := newX_ne (x := x) hf1
      have hFF : eqF (updX F p t y) F = false := eqF_no hp4 ht4 (by simp only [updX, and_self, if_true]; rw [← HX.out, hyn]; exact hnx)
      have heq : ∀ w : World, (Op.equalIn 10000 78 (.agg (standC (updX F p t y))) (.agg (standC F))).run Try.prog w = .ok false w := fun w => by rw [eql_stands, hFF]
      rw [← hyn] at hnb
      have HYN := Lib.hid hyn
      clear hFF hyn hnx
      obtain ⟨hVF, hm0⟩ := HV1.out rfl
      have HVF := Lib.hid hVF; have HM0 := Lib.hid hm0
      clear hVF hm0
      go_wp2_with (first | (refine wpList_load_row rfl 78 (.tmp 9) rfl (a + 1 + 1 + 1) rfl _ _ _ _ N5 Try.underlying78 rfl ?_ ?_; (rw [stand_size]; exact sizeStand)) | (refine wpList_load_row rfl 78 (.tmp 4) rfl a rfl _ _ _ _ D5 Try.underlying78 rfl ?_ ?_; (rw [stand_size]; exact sizeStand)))
      clear heq D5
      have qm := fun i => cell_of_row w5 (a + 1) i _ _ _ M5
      have dn := N5.at_ hp4 ht4
      simp only [updX, and_self, if_true] at dn
      have hz5 := N5.lt
      cases hin : inB y 0 (q - 1)
      · have hno : ∀ n, Calls Try.prog 130 #[.pointer (some ⟨g, 0, none⟩), .int .i64 (p : Int), .int .i64 y] (w5.drewN n) fun e w' => e = .returned (.tuple #[.int .i64 0, .bool false]) ∧ w' = w5.drewN n := fun n => (squareOf_no _ _ _ _ _ _ _ _ _ (R5.drewN n) p y h4 h6 hin).mono fun _ _ h => ⟨h.1, h.2.symm⟩
        have hgl : goL q k st sf F p t face = [] := goL_out (by rw [← HX.out, ← HYN.out]; exact hin)
        have HGL := Lib.hid hgl
        clear hgl hin
        go_quiet (first | (go_at_call 130; with_reducible refine Calls.quiet_of_same (hno _)))
        have N6 := N5.drewN nq
        have Z6 := Z5.drewN nq
        have hb6 := drewB hb5 nq
        clear hno qm dn
        generalize w5.drewN nq = w6 at *
        go_wp2_with (first | (refine wpList_load_row rfl 78 (.tmp 9) rfl (a + 1 + 1 + 1) rfl _ _ _ _ N6 Try.underlying78 rfl ?_ ?_; (rw [stand_size]; exact sizeStand)) | (refine wpList_store_row rfl 78 (.tmp 6) _ rfl (a + 1 + 1) rfl _ _ _ rfl Z6 ?_ ?_ (stand_one _) ?_; (simp only [stand_size]); (rw [stand_size]; exact sizeStand); intro w7 hC7 hg7 hs7))
        exact bodyPost_ret (v := .tuple #[.agg (standC (updX F p t y)), .int .i64 0, .bool true]) (results_cell_slots2 Try.results110 _ _ _ _ _ _ _ _ _ rfl rfl rfl hC7 Try.underlying78 rfl (by rw [stand_size]; exact sizeStand)) rfl
          ⟨by rw [HVF.out, HM0.out, goF, HGL.out, homeF_nil, ← HX.out, ← HYN.out]; rfl, hb6.grown hg7 hb6.size (fun k h => by injection h with h; have := HA.out; omega)⟩
      · have hs0 : 0 ≤ st[p] ∧ st[p] < q := h0 p hp
        have hyes : ∀ n, Calls Try.prog 130 #[.pointer (some ⟨g, 0, none⟩), .int .i64 (p : Int), .int .i64 y] (w5.drewN n) fun e w' => e = .returned (.tuple #[.int .i64 (sqr q st p y), .bool true]) ∧ ∃ m, w' = (w5.drewN n).drewN m := fun n => squareOf_q _ _ _ _ _ _ _ _ _ (R5.drewN n) st p y rfl (hj.go (drewB hb5 n)) h4 h6 hp hs0 hin
        have hsq := sqr_lt (st := st) (p := p) (show 0 < q by omega) hin
        obtain ⟨sq, hsqe⟩ : ∃ sq : Nat, (sq : Int) = sqr q st p y := ⟨(sqr q st p y).toNat, by omega⟩
        rw [← hsqe] at hyes hsq
        obtain ⟨Lg, hLg⟩ : ∃ L, L = goL q k st sf F p t face := ⟨_, rfl⟩
        have hgl : Lg = sentL (safeB sf sq) (pawnsL q k st (updX F p t y) (sq : Int)) (p : Int) := by
          rw [hLg, goL_in (by rw [← HX.out, ← HYN.out]; exact hin), ← HX.out, ← HYN.out, ← hsqe]; rfl
        have hgl16 : Lg.length ≤ 16 := by rw [hLg]; exact goL_len hn hk4
        have hglat : ∀ i (h : i < Lg.length), ∃ x y : Nat, x < 4 ∧ y < 4 ∧ Lg[i] = ((x : Int), (y : Int)) := fun i h => by
          subst hLg
          obtain ⟨x, y, h1, h2, h3, _⟩ := goL_at h
          exact ⟨x, y, by omega, by omega, h3⟩
        have HLG := Lib.hid hLg
        have HGL := Lib.hid hgl
        have HAT := Lib.hid hglat
        clear hLg hgl hglat hin hsqe
        go_quiet (first | (go_at_call 130; with_reducible refine Calls.quiet_of (hyes _)))
        have N6 := N5.drewN nq
        have Z6 := Z5.drewN nq
        have R6 := R5.drewN nq
        have hb6 := drewB hb5 nq
        have M6 : (w5.drewN nq).heap[a + 1]? = some (.cells #[.int .i64 (p : Int), .int .i64 (t : Int), .int .i64 face] 166 (0, 0)) := M5
        clear hyes qm dn N5 Z5 R5 hb5 M5
        generalize w5.drewN nq = w6 at *
        have qm := fun i => cell_of_row w6 (a + 1) i _ _ _ M6
        go_wp2_with (first | (refine wpList_load_row rfl 78 (.tmp 9) rfl (a + 1 + 1 + 1) rfl _ _ _ _ N6 Try.underlying78 rfl ?_ ?_; (rw [stand_size]; exact sizeStand)))
        refine (sentBy_any g q f k A c (safeB sf) st _ R6 (hj.go hb6) (updX F p t y) (p : Int) sq h4 h6 (by omega) hk4 hn h0 (by omega)).mono ?_
        rintro e w7 ⟨Av, cv, rfl, hO, hx7⟩
        rw [← HGL.out] at hO ⊢
        have N7 := N6.go hx7
        have Z7 := Z6.go hx7
        have hb7 : Below w.heap.size w w7 := hb6.trans (hx7.mono hb6.size)
        have hz6 := N6.lt
        have hz7 : w6.heap.size ≤ w7.heap.size := hx7.size
        clear N6 Z6 R6 M6 qm hx7 hb6
        go_wp2_with fail
        go_loopw [61] (fun i wr => ∃ j : Nat, j ≤ Lg.length ∧ i = .int .i64 j ∧ Below a w wr ∧ DA wr (a + 1 + 1 + 1) 78 (homeF (updX F p t y) (Lg.take j)) ∧ DA wr (a + 1 + 1) 78 (fun _ _ => 0) ∧ OJ wr w6.heap.size 163 Av Lg.length (fun y => Lg.getD y (0, 0))) (fun i _ => Lg.length - (intOf i).toNat)
        case atStart => exact ⟨0, Nat.zero_le _, rfl, by rw [HA.out]; exact hb7, N7, Z7, hO⟩
        case round =>
          clear hb7 N7 Z7 hO
          obtain ⟨j, hjl, rfl, hb8, N8, Z8, hO⟩ := hrel
          by_cases hjt : j < Lg.length
          · obtain ⟨gv, rfl, hgv, hrow⟩ := hO.get hjt
            have d1 := hrow.cell1 hjt
            have d2 := hrow.cell2 hjt
            obtain ⟨u, v, hu4, hv4, huv⟩ := HAT.out j hjt
            have hge : Lg.getD j (0, 0) = ((u : Int), (v : Int)) := by rw [List.getD_eq_getElem?_getD, List.getElem?_eq_getElem hjt, huv]; rfl
            rw [hge] at d1 d2
            have htk : Lg.take (j + 1) = Lg.take j ++ [((u : Int), (v : Int))] := by rw [List.take_succ_eq_append_getElem hjt, huv]
            have HT := Lib.hid htk
            have hu4i : (u : Int) < 4 := by omega
            have hv4i : (v : Int) < 4 := by omega
            clear hge htk huv
            have N9 := N8.alloc (.cells #[.int .i64 (u : Int), .int .i64 (v : Int)] 163)
            have dn := N9.at_ hu4 hv4
            have fn := N9.free (u * 4 + v)
            have hz8 := N8.lt
            go_wp2_with fail
            go_region
            go_wp2_with fail
            go_roundw
            case rel =>
              have hb9 : Below a w (wr.setCell ⟨a + 1 + 1 + 1, u * 4 + v, none⟩ (.int .i64 (-1))) := hb8.setCell (by dsimp only; omega) _
              have N10 := N8.set hu4 hv4 (-1)
              have N11 : DA _ _ _ (homeF (updX F p t y) (Lg.take (j + 1))) := N10.congr (fun x _ y _ => by rw [HT.out, homeF_snoc]; rfl)
              exact ⟨j + 1, by omega, by go_num, (hb9.alloc (by have := hb9.size; have := HA.out; omega) _).drew, (N11.alloc _).drew, ((Z8.far (p := ⟨a + 1 + 1 + 1, u * 4 + v, none⟩) (by dsimp only; omega) _).alloc _).drew, .inr ⟨gv, rfl, hgv, ((hrow.far (p := ⟨a + 1 + 1 + 1, u * 4 + v, none⟩) (by dsimp only; omega) _).alloc _).drew⟩⟩
            case measure => simp [intOf]; omega
          · obtain rfl : j = Lg.length := by omega
            go_wp2_with (first | (refine wpList_load_row rfl 78 (.tmp 9) rfl (a + 1 + 1 + 1) rfl _ _ _ _ N8 Try.underlying78 rfl ?_ ?_; (rw [stand_size]; exact sizeStand)) | (refine wpList_store_row rfl 78 (.tmp 6) _ rfl (a + 1 + 1) rfl _ _ _ rfl Z8 ?_ ?_ (stand_one _) ?_; (simp only [stand_size]); (rw [stand_size]; exact sizeStand); intro w9 hC9 hg9 hs9))
            exact bodyPost_ret (v := .tuple #[.agg (standC (homeF (updX F p t y) Lg)), .int .i64 (Lg.length : Int), .bool true]) (results_cell_slots2 Try.results110 _ _ _ _ _ _ _ _ _ rfl rfl rfl hC9 Try.underlying78 rfl (by rw [stand_size]; exact sizeStand)) rfl
              ⟨by rw [HVF.out, HM0.out, goF, ← HLG.out, ← HX.out, ← HYN.out], by rw [HA.out] at hb8; exact hb8.grown hg9 hb8.size (fun k h => by injection h with h; have := HA.out; omega)⟩
end Go.Proofs.Ytmhffdgfkgdmlaa
