/-
  Tracks: TokensAt on both sides.
-/
import Derived.Test.YtpecocmgclancaaC7o
namespace Go.Proofs.Ytpecocmgclancaa
open Go.RowKit

theorem cell_new3 (w : World) (o o' : Obj) (v : Value) (t : TypeId) : ∀ (j : Nat) u, [v][j]? = some u → (((w.alloc o).alloc o').alloc (.cells #[v] t)).cell? ((⟨w.heap.size + 1 + 1, 0, none⟩ : Addr).add j) = some u := by
  have := cell_new1' ((w.alloc o).alloc o') v t
  simp only [World.size_alloc] at this
  exact this

def tkB (q f k : Int) (st sf : List Int) (L : List (List Int)) (s : Int) : Bool := (trkOk q f k st sf && stateB q k st sf L) && inB s 0 (q - 1)
set_option maxRecDepth 100000 in
set_option maxHeartbeats 1000000 in
theorem specTokensAt_no (q f k : Int) (A1 A2 A3 : Option Addr) (c1 c2 c3 : Nat) (st sf : List Int) (L : List (List Int)) (s : Int) (w : World) (h1 : RI w w.heap.size A1 st) (h2 : RI w w.heap.size A2 sf) (h3 : RG w w.heap.size A3 L) (hc : st.length ≤ c1) (hr : tkB q f k st sf L s = false) :
    Calls Try.prog 27 #[.agg #[.int .i64 q, .int .i64 f, .int .i64 k, .slice A1 st.length c1, .slice A2 sf.length c2], .slice A3 L.length c3, .int .i64 s] w (GridBack w 0 (fun _ => 2) (fun _ _ => 0) false) := by
  have hl := h1.1
  have hl2 := h2.1
  have HR := Lib.hid hr
  clear hr
  go_enter Try.func27, Try.ntmps27
  go_wp2_with fail
  refine (trGood_any _ _ _ _ _ _ _ _ _ _ (h1.go (below1 _ _)) (h2.go (below1 _ _)) hc).mono ?_
  rintro e w2 ⟨rfl, hx⟩
  have hb := box_on (Below.refl _ _) hx (by simp)
  have qq := boxcells hb
  have hbw := (below1 w (.cells #[.int .i64 q, .int .i64 f, .int .i64 k, .slice A1 st.length c1, .slice A2 sf.length c2] 27)).trans (hb.mono (by omega))
  cases hz : trkOk q f k st sf
  · go_wp2
    go_ret2
    exact ⟨none, 0, fun _ => 0, fun _ => 0, rfl, Grid.nil _ _ _ _ _ _ _ _, hbw⟩
  have HZ := Lib.hid hz
  have hT := trk_of hz
  have q4 := hT.q4
  have q60 := hT.q60
  have i4 : IntKind.i64.wrap (q - 1) = q - 1 := IntWalk.i64_in _ (by omega)
  clear hz hT
  go_wp2_with fail
  refine (trState_any q f k A1 A2 A3 c1 c2 c3 st sf L _ (h1.go hbw) (h2.go hbw) ((h3.below hbw).more hbw.size) (trk_of HZ.out)).mono ?_
  rintro e w3 ⟨rfl, hx3⟩
  have hb3 := box_on hb hx3 (by have := hb.size; simpa using this)
  have qq3 := boxcells hb3
  have hbw3 := (below1 w (.cells #[.int .i64 q, .int .i64 f, .int .i64 k, .slice A1 st.length c1, .slice A2 sf.length c2] 27)).trans (hb3.mono (by omega))
  clear qq
  cases hs : stateB q k st sf L
  · go_wp2
    go_ret2
    exact ⟨none, 0, fun _ => 0, fun _ => 0, rfl, Grid.nil _ _ _ _ _ _ _ _, hbw3⟩
  have E : inB s 0 (q - 1) = false := by have := HR.out; rw [tkB, HZ.out, hs] at this; exact this
  have HE := Lib.hid E
  clear E hs
  go_wp2_with (go_at_call 57; refine (l1In_any _ _ _ _).mono ?_; rintro e w' ⟨rfl, rfl⟩; rw [HE.out])
  go_ret2
  exact ⟨none, 0, fun _ => 0, fun _ => 0, rfl, Grid.nil _ _ _ _ _ _ _ _, hbw3⟩

set_option maxRecDepth 100000 in
set_option maxHeartbeats 1000000 in
theorem specTokensAt_yes (q f k : Int) (A1 A2 A3 : Option Addr) (c1 c2 c3 : Nat) (st sf : List Int) (L : List (List Int)) (s : Int) (w : World) (h1 : RI w w.heap.size A1 st) (h2 : RI w w.heap.size A2 sf) (h3 : RG w w.heap.size A3 L) (hc : st.length ≤ c1) (hr : tkB q f k st sf L s = true) :
    Calls Try.prog 27 #[.agg #[.int .i64 q, .int .i64 f, .int .i64 k, .slice A1 st.length c1, .slice A2 sf.length c2], .slice A3 L.length c3, .int .i64 s] w (GridBack w (pawnsL q k st (stF q L) s).length (fun _ => 2) (pF (pawnsL q k st (stF q L) s)) true) := by
  have hl := h1.1
  have hl2 := h2.1
  have hTS := state_is (Bool.and_eq_true_iff.1 hr).1
  obtain ⟨q4, q60, f1, f8, k1, k4, n2, n4, st0, sf0, sfl⟩ := hTS.1
  have hSt := Lib.hid hTS.2
  have hz := (Bool.and_eq_true_iff.1 hr).1
  rw [Bool.and_eq_true] at hz
  have HZ := Lib.hid hz.1; have HS := Lib.hid hz.2; have HE := Lib.hid (Bool.and_eq_true_iff.1 hr).2
  have hsb := inB_iff.1 HE.out
  have i4 : IntKind.i64.wrap (q - 1) = q - 1 := IntWalk.i64_in _ (by omega)
  obtain ⟨P, hP⟩ : ∃ P, pawnsL q k st (stF q L) s = P := ⟨_, rfl⟩
  rw [hP]
  have HPP := Lib.hid hP
  clear hr hz hTS hP
  go_enter Try.func27, Try.ntmps27
  go_wp2_with fail
  refine (trGood_any _ _ _ _ _ _ _ _ _ _ (h1.go (below1 _ _)) (h2.go (below1 _ _)) hc).mono ?_
  rintro e w2 ⟨rfl, hx⟩
  rw [HZ.out]
  have hb := box_on (Below.refl _ _) hx (by simp)
  have qq := boxcells hb
  have hbw := (below1 w (.cells #[.int .i64 q, .int .i64 f, .int .i64 k, .slice A1 st.length c1, .slice A2 sf.length c2] 27)).trans (hb.mono (by omega))
  go_wp2_with fail
  refine (trState_any q f k A1 A2 A3 c1 c2 c3 st sf L _ (h1.go hbw) (h2.go hbw) ((h3.below hbw).more hbw.size) (trk_of HZ.out)).mono ?_
  rintro e w3 ⟨rfl, hx3⟩
  rw [HS.out]
  have hb3 := box_on hb hx3 (by have := hb.size; simpa using this)
  have qq3 := boxcells hb3
  have hbw3 := (below1 w (.cells #[.int .i64 q, .int .i64 f, .int .i64 k, .slice A1 st.length c1, .slice A2 sf.length c2] 27)).trans (hb3.mono (by omega))
  clear qq
  go_wp2_with (go_at_call 57; refine (l1In_any _ _ _ _).mono ?_; rintro e w' ⟨rfl, rfl⟩; rw [HE.out])
  refine (trAt_any q f k A1 A2 A3 c1 sf.length c2 c3 st L s _ (h1.go hbw3) ((h3.below hbw3).more hbw3.size) q4 q60 (by omega) k4 n4 st0 hSt.out (by omega)).mono ?_
  rintro e w5 ⟨v, Bk, C, rfl, hG, hx5⟩
  rw [HPP.out] at hG
  obtain ⟨Av, cv, rfl⟩ := hG.slice
  go_wp2
  go_ret2
  exact ⟨Av, cv, Bk, C, rfl, hG.mono hbw3.size, hbw3.trans (hx5.mono hbw3.size)⟩

set_option maxRecDepth 100000 in
set_option maxHeartbeats 1000000 in
theorem implTokensAt_no (q f k : Int) (A1 A2 A3 : Option Addr) (c1 c2 c3 : Nat) (st sf : List Int) (L : List (List Int)) (s : Int) (w : World) (h1 : RI w w.heap.size A1 st) (h2 : RI w w.heap.size A2 sf) (h3 : RG w w.heap.size A3 L) (hc : st.length ≤ c1) (hr : tkB q f k st sf L s = false) :
    Calls Try.prog 28 #[.agg #[.int .i64 q, .int .i64 f, .int .i64 k, .slice A1 st.length c1, .slice A2 sf.length c2], .slice A3 L.length c3, .int .i64 s] w (GridBack w 0 (fun _ => 2) (fun _ _ => 0) false) := by
  have hl := h1.1
  have hl2 := h2.1
  have hl3 := h3.1
  cases hz : (trkOk q f k st sf && stateB q k st sf L)
  · have HF := Lib.hid hz
    clear hz hr
    have z0 := zeroRing
    have z1 := zeroStand
    go_enter Try.func28, Try.ntmps28
    go_wp2_with fail
    refine (ringAndStand_fail q f k A1 A2 A3 c1 c2 c3 st sf L _ (h1.go (below1 _ _)) (h2.go (below1 _ _)) ((h3.below (below1 _ _)).more (below1 _ _).size) hc HF.out).mono ?_
    rintro e w2 ⟨RV, V, rfl, hRs, hR1, hx⟩
    have hbx := box_on (Below.refl _ _) hx (by simp)
    clear hx
    go_wp2_with (first | (refine wpList_store_row rfl 62 (.tmp 8) _ rfl w2.heap.size rfl _ _ (RV) rfl ((Below.heap_alloc _ _ _ (by simp)).trans (heap_alloc_at _ _ _ rfl)) ?_ ?_ hR1 ?_; (rw [hRs, ring_size]); (rw [hRs]; exact sizeRing); intro w3 hC3 hg3 hs3; have N3 := (hg3.block (w2.heap.size + 1) (by simp) (by simp)).trans (heap_alloc_at _ _ _ (by simp))) | (refine wpList_store_row rfl 68 (.tmp 9) _ rfl (w2.heap.size + 1) rfl _ _ (standC (V)) rfl N3 ?_ ?_ (stand_one _) ?_; (simp only [stand_size]); (rw [stand_size]; exact sizeStand); intro w4 hC4 hg4 hs4))
    have hsz2 : w.heap.size + 1 ≤ w2.heap.size := by have := hbx.size; simpa using this
    have hbx4 : Below (w.heap.size + 1) (w.alloc (.cells #[.int .i64 q, .int .i64 f, .int .i64 k, .slice A1 st.length c1, .slice A2 sf.length c2] 27)) w4 := (((hbx.alloc hsz2 _).alloc (by simp; omega) _).grown hg3 (by simp; omega) (fun k h => by injection h with h; omega)).grown hg4 (by have := hg3.size; simp at this; omega) (fun k h => by injection h with h; omega)
    have hb4 : Below w.heap.size w w4 := (below1 w _).trans (hbx4.mono (by omega))
    go_ret2
    exact ⟨none, 0, fun _ => 0, fun _ => 0, rfl, Grid.nil _ _ _ _ _ _ _ _, hb4⟩
  have hp : inB s 0 (q - 1) = false := by rw [tkB, hz, Bool.true_and] at hr; exact hr
  have HP := Lib.hid hp
  have q4 := (state_is hz).1.q4
  have q60 := (state_is hz).1.q60
  rw [Bool.and_eq_true] at hz
  have HZ := Lib.hid hz.1; have HS := Lib.hid hz.2
  clear hz hr hp
  have z0 := zeroRing
  have z1 := zeroStand
  go_enter Try.func28, Try.ntmps28
  go_wp2_with fail
  refine (ringAndStand_in q f k A1 A2 A3 c1 c2 c3 st sf L _ (h1.go (below1 _ _)) (h2.go (below1 _ _)) ((h3.below (below1 _ _)).more (below1 _ _).size) hc HZ.out).mono ?_
  rintro e w2 ⟨V, rfl, hV, hx⟩
  rw [HS.out] at hV ⊢
  obtain rfl := hV rfl
  clear hV
  have hbx := box_on (Below.refl _ _) hx (by simp)
  clear hx
  go_wp2_with (first | (refine wpList_store_row rfl 62 (.tmp 8) _ rfl w2.heap.size rfl _ _ (ringC q f k A1 st.length c1 (safeB sf)) rfl ((Below.heap_alloc _ _ _ (by simp)).trans (heap_alloc_at _ _ _ rfl)) ?_ ?_ ring_one ?_; (simp only [ring_size]); (rw [ring_size]; exact sizeRing); intro w3 hC3 hg3 hs3; have N3 := (hg3.block (w2.heap.size + 1) (by simp) (by simp)).trans (heap_alloc_at _ _ _ (by simp))) | (refine wpList_store_row rfl 68 (.tmp 9) _ rfl (w2.heap.size + 1) rfl _ _ (standC (stF q L)) rfl N3 ?_ ?_ (stand_one _) ?_; (simp only [stand_size]); (rw [stand_size]; exact sizeStand); intro w4 hC4 hg4 hs4) | (go_at_call 62; refine (hasSquare_any _ _ _ _ _ _ _ _ _ (show RA w4 w2.heap.size 62 q f k A1 st.length c1 (safeB sf) from (hg4.block _ (heap_lt hC3) (by simp)).trans hC3) _ (by omega) q60).mono ?_; rintro e w' ⟨rfl, rfl⟩; rw [HP.out]))
  have hsz2 : w.heap.size + 1 ≤ w2.heap.size := by have := hbx.size; simpa using this
  have hbx4 : Below (w.heap.size + 1) (w.alloc (.cells #[.int .i64 q, .int .i64 f, .int .i64 k, .slice A1 st.length c1, .slice A2 sf.length c2] 27)) w4 := (((hbx.alloc hsz2 _).alloc (by simp; omega) _).grown hg3 (by simp; omega) (fun k h => by injection h with h; omega)).grown hg4 (by have := hg3.size; simp at this; omega) (fun k h => by injection h with h; omega)
  have hb4 : Below w.heap.size w w4 := (below1 w _).trans (hbx4.mono (by omega))
  have K4 : RA w4 w2.heap.size 62 q f k A1 st.length c1 (safeB sf) := (hg4.block _ (heap_lt hC3) (by simp)).trans hC3
  have E4 : DA w4 (w2.heap.size + 1) 68 (stF q L) := hC4
  go_ret2
  exact ⟨none, 0, fun _ => 0, fun _ => 0, rfl, Grid.nil _ _ _ _ _ _ _ _, hb4⟩

set_option maxRecDepth 100000 in
set_option maxHeartbeats 2000000 in
theorem implTokensAt_yes (q f k : Int) (A1 A2 A3 : Option Addr) (c1 c2 c3 : Nat) (st sf : List Int) (L : List (List Int)) (s : Int) (w : World) (h1 : RI w w.heap.size A1 st) (h2 : RI w w.heap.size A2 sf) (h3 : RG w w.heap.size A3 L) (hc : st.length ≤ c1) (hr : tkB q f k st sf L s = true) :
    Calls Try.prog 28 #[.agg #[.int .i64 q, .int .i64 f, .int .i64 k, .slice A1 st.length c1, .slice A2 sf.length c2], .slice A3 L.length c3, .int .i64 s] w (GridBack w (pawnsL q k st (stF q L) s).length (fun _ => 2) (pF (pawnsL q k st (stF q L) s)) true) := by
  have hl := h1.1
  have hl2 := h2.1
  have hl3 := h3.1
  obtain ⟨i0, hi, hz0, hz1, hz2⟩ := info_parts infoSl1
  have hTS := state_is (Bool.and_eq_true_iff.1 hr).1
  obtain ⟨q4, q60, f1, f8, k1, k4, n2, n4, st0, sf0, sfl⟩ := hTS.1
  have hz := (Bool.and_eq_true_iff.1 hr).1
  rw [Bool.and_eq_true] at hz
  have HZ := Lib.hid hz.1; have HS := Lib.hid hz.2; have HP := Lib.hid (Bool.and_eq_true_iff.1 hr).2
  have hsb := inB_iff.1 HP.out
  have hP16 : (pawnsL q k st (stF q L) s).length ≤ 16 := pawnsL_len n4 k4
  obtain ⟨P, hP⟩ : ∃ P, pawnsL q k st (stF q L) s = P := ⟨_, rfl⟩
  rw [hP] at hP16 ⊢
  have HPP := Lib.hid hP
  clear hr hz hTS hP
  have z0 := zeroRing
  have z1 := zeroStand
  go_enter Try.func28, Try.ntmps28
  go_wp2_with fail
  refine (ringAndStand_in q f k A1 A2 A3 c1 c2 c3 st sf L _ (h1.go (below1 _ _)) (h2.go (below1 _ _)) ((h3.below (below1 _ _)).more (below1 _ _).size) hc HZ.out).mono ?_
  rintro e w2 ⟨V, rfl, hV, hx⟩
  rw [HS.out] at hV ⊢
  obtain rfl := hV rfl
  clear hV
  have hbx := box_on (Below.refl _ _) hx (by simp)
  clear hx
  go_wp2_with (first | (refine wpList_store_row rfl 62 (.tmp 8) _ rfl w2.heap.size rfl _ _ (ringC q f k A1 st.length c1 (safeB sf)) rfl ((Below.heap_alloc _ _ _ (by simp)).trans (heap_alloc_at _ _ _ rfl)) ?_ ?_ ring_one ?_; (simp only [ring_size]); (rw [ring_size]; exact sizeRing); intro w3 hC3 hg3 hs3; have N3 := (hg3.block (w2.heap.size + 1) (by simp) (by simp)).trans (heap_alloc_at _ _ _ (by simp))) | (refine wpList_store_row rfl 68 (.tmp 9) _ rfl (w2.heap.size + 1) rfl _ _ (standC (stF q L)) rfl N3 ?_ ?_ (stand_one _) ?_; (simp only [stand_size]); (rw [stand_size]; exact sizeStand); intro w4 hC4 hg4 hs4) | (go_at_call 62; refine (hasSquare_any _ _ _ _ _ _ _ _ _ (show RA w4 w2.heap.size 62 q f k A1 st.length c1 (safeB sf) from (hg4.block _ (heap_lt hC3) (by simp)).trans hC3) _ (by omega) q60).mono ?_; rintro e w' ⟨rfl, rfl⟩; rw [HP.out]) | (refine wpList_load_row rfl 68 (.tmp 9) rfl (w2.heap.size + 1) rfl _ _ _ _ hC4 Try.underlying68 rfl ?_ ?_; (rw [stand_size]; exact sizeStand)))
  have hsz2 : w.heap.size + 1 ≤ w2.heap.size := by have := hbx.size; simpa using this
  have hbx4 : Below (w.heap.size + 1) (w.alloc (.cells #[.int .i64 q, .int .i64 f, .int .i64 k, .slice A1 st.length c1, .slice A2 sf.length c2] 27)) w4 := (((hbx.alloc hsz2 _).alloc (by simp; omega) _).grown hg3 (by simp; omega) (fun k h => by injection h with h; omega)).grown hg4 (by have := hg3.size; simp at this; omega) (fun k h => by injection h with h; omega)
  have hb4 : Below w.heap.size w w4 := (below1 w _).trans (hbx4.mono (by omega))
  have K4 : RA w4 w2.heap.size 62 q f k A1 st.length c1 (safeB sf) := (hg4.block _ (heap_lt hC3) (by simp)).trans hC3
  have E4 : DA w4 (w2.heap.size + 1) 68 (stF q L) := hC4
  refine (pawnsOn_any w2.heap.size q f k A1 c1 (safeB sf) st w4 K4 (h1.go hb4) (stF q L) s q4 q60 (by omega) k4 n4 st0 (by omega)).mono ?_
  rintro e w5 ⟨v, rfl, hown, hx5⟩
  rw [HPP.out] at hown
  obtain ⟨Av, cv, rfl, hO⟩ := own_oj hown rfl
  have hb5 := hb4.trans (hx5.mono hb4.size)
  clear hown K4 E4 hbx hbx4 hb4 hC3 hC4 hg3 hg4 N3 hx5
  go_wp2_with fail
  go_loopw [11, 32] (fun v i wr => ∃ (j : Nat) (Bk C : Nat → Nat), j ≤ P.length ∧ i = .int .i64 j ∧ Below w5.heap.size w5 wr ∧ Grid wr w5.heap.size 22 3 v (P.take j).length (fun _ => 2) (pF (P.take j)) Bk C) (fun _ i _ => P.length - (intOf i).toNat)
  case atStart => exact ⟨0, fun _ => 0, fun _ => 0, Nat.zero_le _, rfl, Below.refl _ _, Grid.nil _ _ _ _ _ _ _ _⟩
  case round =>
    obtain ⟨j, Bk, C, hj, rfl, hB, hG⟩ := hrel
    have hsz := hB.size
    obtain ⟨M, hM⟩ : ∃ M, M = P.take j := ⟨_, rfl⟩
    have hMl : M.length ≤ 16 := by rw [hM]; simp; omega
    rw [← hM] at hG
    have HM := Lib.hid hM
    clear hM
    obtain ⟨Ag, cg, rfl⟩ := hG.slice
    by_cases hjt : j < P.length
    · obtain ⟨gv, rfl, hgv, hrow5⟩ := hO.get hjt
      have hrow := hrow5.below hB hrow5.lt
      have d1 := hrow.cell1 hjt
      have d2 := hrow.cell2 hjt
      have htk : P.take (j + 1) = P.take j ++ [((P.getD j (0, 0)).1, (P.getD j (0, 0)).2)] := by
        rw [List.take_succ_eq_append_getElem hjt, List.getD_eq_getElem?_getD, List.getElem?_eq_getElem hjt]; rfl
      obtain ⟨x, hx⟩ : ∃ x, x = (P.getD j (0, 0)).1 := ⟨_, rfl⟩
      obtain ⟨y, hy⟩ : ∃ y, y = (P.getD j (0, 0)).2 := ⟨_, rfl⟩
      rw [← hx] at d1 htk
      rw [← hy] at d2 htk
      rw [← HM.out] at htk
      have HT := Lib.hid htk
      clear hx hy htk
      have hG1 := hG.alloc (.cells #[.int .i64 x, .int .i64 y] 79)
      have hGa := (hG1.alloc (.cells #[.int .i64 x, .int .i64 y] 3)).alloc (.cells #[.slice (some ⟨wr.heap.size + 1, 0, none⟩) 2 2] 22)
      go_wp2_with (at_builtin; go_loud (refine wpList_append_own_at _ rfl _ _ 31 rfl w5.heap.size 22 i0 (.slice none 0 0) 1 24 Try.underlying31 hi hz0 hz1 hz2 rfl (by decide) _ _ _ rfl hGa.1 ⟨wr.heap.size + 1 + 1, 0, none⟩ 1 1 [.slice (some ⟨wr.heap.size + 1, 0, none⟩) 2 2] rfl rfl (cell_new3 _ _ _ _ _) (one_slice _ _ _) (by unfold maxLen; omega) (by omega) (by simp; omega) ?_; intro v1 w6 hown6 hg6 _ hb6))
      go_roundw
      case rel =>
        obtain ⟨Bk', C', hG'⟩ := grid_pawn (w := wr.alloc (.cells #[.int .i64 x, .int .i64 y] 79)) (by simp; omega) hG1 (by simp only [World.size_alloc]; exact hown6) (by simp only [World.size_alloc]; exact hg6) (hb6.imp id (fun h => by rw [h]; simp))
        exact ⟨j + 1, Bk', C', by omega, by go_num, (((hB.alloc hsz _).alloc (by simp; omega) _).alloc (by simp; omega) _).grown hg6 (by simp; omega) (fun i h => hG.from_ i h), by rw [HT.out]; exact hG'⟩
      case measure => simp [intOf]; omega
    · obtain rfl : j = P.length := by omega
      have hMP : M = P := by rw [HM.out, List.take_of_length_le (Nat.le_refl _)]
      clear HM
      subst hMP
      go_wp2
      go_ret2
      exact ⟨Ag, cg, Bk, C, rfl, hG.mono hb5.size, hb5.trans (hB.mono hb5.size)⟩

theorem tokensAt_both (q f k : Int) (st sf : List Int) (L : List (List Int)) (s : Int) : ∃ (n : Nat) (len : Nat → Nat) (F : Nat → Nat → Int) (ok : Bool), n ≤ 1048576 ∧ (∀ y, len y ≤ 1048576) ∧
    (∀ (A1 A2 : Option Addr) (c1 c2 : Nat) (A3 : Option Addr) (c3 : Nat) (w : World), RI w w.heap.size A1 st → RI w w.heap.size A2 sf → st.length ≤ c1 → RG w w.heap.size A3 L → Calls Try.prog 27 #[.agg #[.int .i64 q, .int .i64 f, .int .i64 k, .slice A1 st.length c1, .slice A2 sf.length c2], .slice A3 L.length c3, .int .i64 s] w (GridBack w n len F ok)) ∧
    (∀ (A1 A2 : Option Addr) (c1 c2 : Nat) (A3 : Option Addr) (c3 : Nat) (w : World), RI w w.heap.size A1 st → RI w w.heap.size A2 sf → st.length ≤ c1 → RG w w.heap.size A3 L → Calls Try.prog 28 #[.agg #[.int .i64 q, .int .i64 f, .int .i64 k, .slice A1 st.length c1, .slice A2 sf.length c2], .slice A3 L.length c3, .int .i64 s] w (GridBack w n len F ok)) := by
  cases h : tkB q f k st sf L s
  · exact ⟨0, fun _ => 2, fun _ _ => 0, false, by omega, fun _ => (by show 2 ≤ 1048576; omega), fun A1 A2 c1 c2 A3 c3 w a b c d => specTokensAt_no q f k A1 A2 A3 c1 c2 c3 st sf L s w a b d c h, fun A1 A2 c1 c2 A3 c3 w a b c d => implTokensAt_no q f k A1 A2 A3 c1 c2 c3 st sf L s w a b d c h⟩
  · have hT := (state_is (Bool.and_eq_true_iff.1 h).1).1
    exact ⟨_, fun _ => 2, _, true, Nat.le_trans (pawnsL_len hT.n4 hT.k4) (by omega), fun _ => (by show 2 ≤ 1048576; omega), fun A1 A2 c1 c2 A3 c3 w a b c d => specTokensAt_yes q f k A1 A2 A3 c1 c2 c3 st sf L s w a b d c h, fun A1 A2 c1 c2 A3 c3 w a b c d => implTokensAt_yes q f k A1 A2 A3 c1 c2 c3 st sf L s w a b d c h⟩

end Go.Proofs.Ytpecocmgclancaa
