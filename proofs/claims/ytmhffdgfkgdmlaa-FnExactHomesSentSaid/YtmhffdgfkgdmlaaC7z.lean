/-
  Tracks: the model's move.
-/
import Derived.Test.YtmhffdgfkgdmlaaC7y
import Derived.ChangeKeysEq
import Derived.BigRegion
namespace Go.Proofs.Ytmhffdgfkgdmlaa
open Go.RowKit

theorem Grid.setAt {w : World} {base : Nat} {t te : TypeId} {v : Value} {n : Nat} {len : Nat → Nat} {F : Nat → Nat → Int} {Bk C : Nat → Nat} (h : Grid w base t te v n len F Bk C) {y j : Nat} (hy : y < n) (hj : j < len y) (a : Int) : Grid (w.setCell ⟨Bk y, j, none⟩ (.int .i64 a)) base t te v n len (fun z i => if z = y ∧ i = j then a else F z i) Bk C :=
  (h.setRow hy (grown_setCell (grown_refl w _) _ _ rfl) ((h.2.1 y hy).2.2.set hj a)).congr (fun _ _ => rfl) (fun z _ i _ => by
    by_cases e : z = y
    · subst e; simp
    · simp [e])

set_option maxRecDepth 100000 in
set_option maxHeartbeats 2000000 in
theorem trGo_any (q f k : Int) (A1 A2 A3 : Option Addr) (c1 c2 c3 : Nat) (st sf : List Int) (L : List (List Int)) (P T : Nat) (x : Int) (w : World) (h1 : RI w w.heap.size A1 st) (h2 : RI w w.heap.size A2 sf) (h3 : RG w w.heap.size A3 L) (_hc : st.length ≤ c1) (hT : Trk q f k st sf) (hS : Sta q k st.length L) (hlt : P < L.length) (htl : T < L[P].length) (hx1 : 1 ≤ x) (_hx8 : x ≤ 8) (hcan : canB q f (stF q L P T) x = true) (n : Int) (hn : n = ((goL q k st sf (stF q L) P T x).length : Int)) (FF : Nat → Nat → Int) (hFF : FF = goF q k st sf (stF q L) P T x) :
    Calls Try.prog 82 #[.agg #[.int .i64 q, .int .i64 f, .int .i64 k, .slice A1 st.length c1, .slice A2 sf.length c2], .slice A3 L.length c3, .int .i64 (P : Int), .int .i64 (T : Int), .int .i64 x] w fun e w' => ∃ A c Bk C, e = .returned (.tuple #[.slice A L.length c, .int .i64 n]) ∧ Grid w' w.heap.size 22 3 (.slice A L.length c) L.length (fun _ => k.toNat) FF Bk C ∧ Below w.heap.size w w' := by
  have hl := h1.1
  have hl2 := h2.1
  have hl3 := h3.1
  obtain ⟨i0, hi, hz0, hz1, hz2⟩ := info_parts infoSl1
  obtain ⟨q4, q60, f1, f8, k1, k4, n2, n4, st0, sf0, sfl⟩ := hT
  have hPn : P < st.length := by have := hS.len; omega
  have hrl := hS.row P hlt
  have hx0 := stF_bd hS (by omega) P T
  have hyb := newX_bd (q := q) (by omega) hx1 hcan
  obtain ⟨K, hK⟩ : ∃ K, K = k.toNat := ⟨_, rfl⟩
  have hKk : (K : Int) = k := by omega
  have htK : T < K := by omega
  have hK4 : K ≤ 4 := by omega
  have hK1 : 1 ≤ K := by omega
  rw [← hK]
  have HK := Lib.hid hK; have HKk := Lib.hid hKk
  clear hK hKk hrl
  have hLn : L.length ≤ 4 := by have := hS.len; omega
  have HN := Lib.hid hn; have HF := Lib.hid hFF
  clear hn hFF hcan
  go_enter Try.func82, Try.ntmps82
  have hB0 : Below (w.heap.size + 1) (w.alloc (.cells #[.int .i64 q, .int .i64 f, .int .i64 k, .slice A1 st.length c1, .slice A2 sf.length c2] 29)) (w.alloc (.cells #[.int .i64 q, .int .i64 f, .int .i64 k, .slice A1 st.length c1, .slice A2 sf.length c2] 29)) := Below.refl _ _
  go_wp2_with fail
  go_loopw [12, 22] (fun v i wr => ∃ (p : Nat) (Bk C : Nat → Nat), p ≤ L.length ∧ i = .int .i64 p ∧ Below (w.heap.size + 1) (w.alloc (.cells #[.int .i64 q, .int .i64 f, .int .i64 k, .slice A1 st.length c1, .slice A2 sf.length c2] 29)) wr ∧ Grid wr (w.heap.size + 1) 22 3 v p (fun _ => K) (stF q L) Bk C) (fun _ i _ => L.length - (intOf i).toNat)
  case atStart => exact ⟨0, fun _ => 0, fun _ => 0, Nat.zero_le _, rfl, hB0, Grid.nil _ _ _ _ _ _ _ _⟩
  case round =>
    clear hB0
    obtain ⟨p, Bk, C, hp, rfl, hB, hGr⟩ := hrel
    have hbw := (below1 w (.cells #[.int .i64 q, .int .i64 f, .int .i64 k, .slice A1 st.length c1, .slice A2 sf.length c2] 29)).trans (hB.mono (by omega))
    have hsz : w.heap.size + 1 ≤ wr.heap.size := by have := hB.size; simpa using this
    by_cases hpl : p < L.length
    · obtain ⟨b, off, A', c', rfl, hbb, hcc, hrow⟩ := h3.at_ hbw hpl
      have hrp := hS.row p hpl
      have hFp : ∀ t (h : t < L[p].length), stF q L p t = L[p][t] := fun t h => stF_at hpl h
      obtain ⟨xs, hxs⟩ : ∃ xs, xs = L[p] := ⟨_, rfl⟩
      have hFp' : ∀ t (h : t < xs.length), stF q L p t = xs[t] := fun t h => by subst hxs; exact hFp t h
      rw [← hxs] at hcc hrow hrp
      have HFP := Lib.hid hFp'
      clear hxs hFp hFp'
      have hxk : xs.length = K := by have := HKk.out; omega
      have HXK := Lib.hid hxk
      have hxl4 : xs.length ≤ 4 := by omega
      have hx1' : 1 ≤ xs.length := by omega
      clear hxk hrp
      obtain ⟨hxl, rfl | ⟨b2, off2, rfl, hb2, hcell⟩⟩ := hrow
      · simp at hx1'
      have hb2' : b2 < wr.heap.size := by have := hbw.size; omega
      have HC := Lib.hid hcell
      clear hcell
      obtain ⟨Av, cv, rfl⟩ := hGr.slice
      go_wp2_with fail
      refine (l1Own_any b2 off2 c' xs wr hb2' HC.out hxl).mono ?_
      rintro e w5 ⟨A5, c5, rfl, hO5, hx5⟩
      obtain ⟨g5, rfl, hg5, hr5⟩ := hO5.get (k := 0) (by omega)
      have hG5 := hGr.below hx5
      have hB5 := box_on hB hx5 hsz
      have hs5 := hx5.size
      clear hcc
      go_wp2_with (at_builtin; go_loud (refine wpList_append_own_at _ rfl _ _ 26 rfl (w.heap.size + 1) 22 i0 (.slice none 0 0) 1 24 Try.underlying26 hi hz0 hz1 hz2 rfl (by decide) _ _ _ rfl (hG5.1.alloc _) ⟨w5.heap.size, 0, none⟩ 1 1 [.slice (some ⟨g5, 0, none⟩) xs.length c5] rfl rfl (cell_new1' _ _ _) (one_slice _ _ _) (by unfold maxLen; omega) (by omega) (by simp; omega) ?_; intro v1 w6 hown6 hg6 _ hb6))
      go_roundw
      case rel =>
        have hGn := Grid.push hG5 hr5 (by omega) (fun e => by have := hGr.lt _ e; omega) (fun y hy e => by have := (hGr.2.1 y hy).2.2.lt; omega) hown6 hg6 hb6
        refine ⟨p + 1, _, _, by omega, by go_num, (hB5.alloc (by omega) _).grown hg6 (by simp; omega) (fun i h => hG5.from_ i h), hGn.congr (fun y _ => by split; exact HXK.out; rfl) (fun y hy j hj => ?_)⟩
        by_cases e : y = p
        · subst e
          simp only [if_true] at hj ⊢
          rw [HFP.out j hj, List.getD_eq_getElem?_getD, List.getElem?_eq_getElem hj]; rfl
        · simp only [e, if_false]
      case measure => simp [intOf]; omega
    · obtain rfl : p = L.length := by omega
      obtain ⟨Av, cv, rfl⟩ := hGr.slice
      have qq := boxcells hB
      obtain ⟨g, hA, hg0, hgs, ci, hri⟩ := hGr.row hlt
      simp only at hA
      injection hA with hA _ _
      have hA' := hA
      have di := hri.cell htK
      have fi := hri.free T
      have hbP : w.heap.size + 1 ≤ Bk P := (hGr.2.1 P hlt).1
      obtain ⟨y0, hy0⟩ : ∃ y0, y0 = stF q L P T := ⟨_, rfl⟩
      rw [← hy0] at di hx0 hyb
      have HY0 := Lib.hid hy0
      clear hy0
      subst hA
      by_cases hneg : y0 < 0
      · have hnew : newX y0 x = 0 := if_pos hneg
        have HNEW := Lib.hid hnew
        rw [hnew] at hyb
        clear hnew
        go_wp2_with fail
        have hG3 := hGr.setAt hlt htK 0
        have hB3 : Below (w.heap.size + 1) (w.alloc (.cells #[.int .i64 q, .int .i64 f, .int .i64 k, .slice A1 st.length c1, .slice A2 sf.length c2] 29)) (wr.setCell ⟨Bk P, T, none⟩ (.int .i64 0)) := hB.setCell hbP _
        clear hGr hB hri ci di fi qq hbw
        generalize (wr.setCell ⟨Bk P, T, none⟩ (.int .i64 0)) = w3 at *
        have hbw := (below1 w (.cells #[.int .i64 q, .int .i64 f, .int .i64 k, .slice A1 st.length c1, .slice A2 sf.length c2] 29)).trans (hB3.mono (by omega))
        have qq := boxcells hB3
        have hs3 : w.heap.size + 1 ≤ w3.heap.size := by have := hB3.size; simpa using this
        have hU : (fun z i => if z = P ∧ i = T then 0 else stF q L z i) = updX (stF q L) P T 0 := rfl
        rw [hU] at hG3
        have hyn : newX (stF q L P T) x = 0 := (by rw [← HY0.out]; exact HNEW.out)
        cases hin : inB 0 0 (q - 1)
        · have hgl : goL q k st sf (stF q L) P T x = [] := goL_out (by rw [hyn]; exact hin)
          have hgf : goF q k st sf (stF q L) P T x = updX (stF q L) P T 0 := by rw [goF, hgl, homeF_nil, hyn]
          have HGL := Lib.hid hgl; have HGF := Lib.hid hgf; have HIN := Lib.hid hin
          clear hgl hgf hin hyn
          go_wp2_with fail
          refine (trSquare_no _ _ _ _ _ _ _ _ _ _ _ _ q4 q60 HIN.out).mono ?_
          rintro e w4 ⟨rfl, hx4⟩
          have hG4 := hG3.below hx4
          have hb4 := hbw.trans (hx4.mono hbw.size)
          go_wp2_with fail
          go_ret2
          exact ⟨some ⟨g, 0, none⟩, cv, Bk, C, by rw [HN.out, HGL.out]; rfl, by rw [HF.out, HGF.out]; exact hG4.mono (by omega), hb4⟩
        · have hsq := sqr_lt (st := st) (p := P) (show 0 < q by omega) hin
          obtain ⟨sq, hsqe⟩ : ∃ sq : Nat, (sq : Int) = sqr q st P 0 := ⟨(sqr q st P 0).toNat, by omega⟩
          rw [← hsqe] at hsq
          have hs0 : ¬ (sq : Int) < 0 := by omega
          have hgl : goL q k st sf (stF q L) P T x = sentL (safeB sf sq) (pawnsL q k st (updX (stF q L) P T 0) (sq : Int)) (P : Int) := by
            rw [goL_in (by rw [hyn]; exact hin), hyn, ← hsqe]; rfl
          have hgf : goF q k st sf (stF q L) P T x = homeF (updX (stF q L) P T 0) (goL q k st sf (stF q L) P T x) := by rw [goF, hyn]
          obtain ⟨r, hr⟩ : ∃ r, r = safeB sf sq := ⟨_, rfl⟩
          have hr' : r = hasB sf (sq : Int) := hr
          rw [← hr] at hgl
          have HGL := Lib.hid hgl; have HGF := Lib.hid hgf; have HIN := Lib.hid hin; have HSQ := Lib.hid hsqe; have HR := Lib.hid hr'
          clear hgl hgf hin hyn hsqe hr hr'
          go_wp2_with fail
          refine (trSquare_yes _ _ _ _ _ _ _ _ st P 0 _ (h1.go hbw) q4 q60 hPn (st0 P hPn) HIN.out).mono ?_
          rintro e w4 ⟨rfl, hx4⟩
          rw [← HSQ.out]
          have hG4 := hG3.below hx4
          have hB4 := box_on hB3 hx4 hs3
          have hb4 := hbw.trans (hx4.mono hbw.size)
          have qq4 := boxcells hB4
          have hs4 := Nat.le_trans hs3 hx4.size
          clear hG3 hB3 qq hbw
          go_wp2_with fail
          refine (l1Has_any _ _ _ sf (sq : Int) _ (h2.go hb4) rfl).mono ?_
          rintro e w' ⟨rfl, rfl⟩
          rw [← HR.out]
          cases r
          · obtain ⟨Lu, hLu⟩ : ∃ Lu, Lu = upL L P T 0 := ⟨_, rfl⟩
            have hLul : Lu.length = L.length := by rw [hLu]; exact upL_len
            have hLus : Sta q k st.length Lu := by rw [hLu]; exact sta_upL hS ⟨by omega, by omega⟩
            have hLuF : stF q Lu = updX (stF q L) P T 0 := by rw [hLu]; exact stF_upL hlt htl
            have hLur : ∀ z (hz : z < Lu.length), K = Lu[z].length ∧ Lu[z].length ≤ 1048576 ∧ ∀ j (hj : j < Lu[z].length), updX (stF q L) P T 0 z j = Lu[z][j] := fun z hz => by
              have := hLus.row z hz
              have := HKk.out
              exact ⟨by omega, by omega, fun j hj => by rw [← hLuF]; exact stF_at hz hj⟩
            have hRG : RG w4 w4.heap.size (some ⟨g, 0, none⟩) Lu := by
              have hg := hG4
              rw [← hLul] at hg
              exact hg.rg (by rw [hLul]; exact h3.1) hLur
            have htr := trAt_any q f k A1 A2 (some ⟨g, 0, none⟩) c1 sf.length c2 cv st Lu (sq : Int) w4 (h1.go hb4) hRG q4 q60 (by omega) k4 n4 st0 hLus ⟨by omega, hsq.2⟩
            rw [hLuF, hLul] at htr
            have hbk : ∀ z < L.length, Bk z < w4.heap.size := fun z hz => (hG4.2.1 z hz).2.2.lt
            have hbl : ∀ z < L.length, w.heap.size + 1 ≤ Bk z := fun z hz => (hG4.2.1 z hz).1
            obtain ⟨Pw, hPw⟩ : ∃ Pw, Pw = pawnsL q k st (updX (stF q L) P T 0) (sq : Int) := ⟨_, rfl⟩
            have hPwm : ∀ j (h : j < Pw.length), ∃ u v : Nat, u < L.length ∧ v < K ∧ Pw[j] = ((u : Int), (v : Int)) := fun j h => by
              subst hPw
              obtain ⟨u, v, hu, hv, _, e⟩ := pawnsL_mem.1 (List.getElem_mem h)
              exact ⟨u, v, by have := hS.len; omega, by have := HK.out; omega, e⟩
            have hPwl : Pw.length ≤ 16 := by rw [hPw]; exact pawnsL_len n4 k4
            have hgo : goL q k st sf (stF q L) P T x = othL Pw (P : Int) := by rw [HGL.out, hPw]; rfl
            rw [← hPw] at htr
            have HPM := Lib.hid hPwm; have HBK := Lib.hid hbk; have HBL := Lib.hid hbl; have HGO := Lib.hid hgo
            clear hLu hLus hLuF hLur hRG hPw hPwm hbk hbl hgo
            go_wp2_with fail
            refine htr.mono ?_
            rintro e w5 ⟨v2, Bk2, C2, rfl, hP2, hx5⟩
            have hG5 := hG4.below hx5
            have hB5 := box_on hB4 hx5 hs4
            clear htr hG4 hB4 hb4 qq4 hx5
            obtain ⟨A2v, c2v, rfl⟩ := hP2.slice
            go_wp2_with fail
            go_loopw [16, 69] (fun s i wi => ∃ j : Nat, j ≤ Pw.length ∧ i = .int .i64 j ∧ s = .int .i64 ((othL (Pw.take j) (P : Int)).length : Int) ∧ Below (w.heap.size + 1) (w.alloc (.cells #[.int .i64 q, .int .i64 f, .int .i64 k, .slice A1 st.length c1, .slice A2 sf.length c2] 29)) wi ∧ Grid wi (w.heap.size + 1) 22 3 (.slice (some ⟨g, 0, none⟩) L.length cv) L.length (fun _ => K) (homeF (updX (stF q L) P T 0) (othL (Pw.take j) (P : Int))) Bk C ∧ Grid wi w4.heap.size 22 3 (.slice A2v Pw.length c2v) Pw.length (fun _ => 2) (pF Pw) Bk2 C2) (fun _ i _ => Pw.length - (intOf i).toNat)
            case atStart => exact ⟨0, Nat.zero_le _, rfl, rfl, hB5, hG5, hP2⟩
            case round =>
              clear hB5 hG5 hP2
              obtain ⟨j, hj, rfl, rfl, hB5, hG5, hP2⟩ := hrel
              by_cases hjl : j < Pw.length
              · obtain ⟨g2, hA2, hgl2, _, ci2, hri2⟩ := hP2.row hjl
                simp only at hA2
                injection hA2 with hA2 _ _
                subst hA2
                obtain ⟨u, v, hu, hv, huv⟩ := HPM.out j hjl
                have hge : Pw.getD j (0, 0) = ((u : Int), (v : Int)) := by rw [List.getD_eq_getElem?_getD, List.getElem?_eq_getElem hjl, huv]; rfl
                have e0 := hri2.cell (k := 0) (by omega)
                have e1 := hri2.cell (k := 1) (by omega)
                simp only [pF, hge, if_true] at e0
                simp only [pF, hge, show ¬ (1 = 0) by omega, if_false] at e1
                have hol : (othL (Pw.take j) (P : Int)).length ≤ 16 := Nat.le_trans (List.length_filter_le _ _) (by simp; omega)
                by_cases hup : u = P
                · have hno := othL_no hjl (p := (P : Int)) (by rw [huv, hup]; simp)
                  have hue : (u : Int) = (P : Int) := by omega
                  obtain ⟨n0, hn0⟩ : ∃ n0, n0 = (othL (Pw.take j) (P : Int)).length := ⟨_, rfl⟩
                  rw [← hn0]
                  rw [hue] at e0
                  have HNO := Lib.hid hno; have HN0 := Lib.hid hn0
                  clear hno hn0 hue hge huv
                  go_wp2_with fail
                  go_roundw
                  case rel => exact ⟨j + 1, by omega, by go_num, by rw [HNO.out, ← HN0.out], hB5, by rw [HNO.out]; exact hG5, hP2⟩
                  case measure => simp [intOf]; omega
                · have hyes := othL_yes hjl (p := (P : Int)) (by rw [huv]; simp; omega)
                  rw [huv] at hyes
                  have hne : ¬ (u : Int) = (P : Int) := by omega
                  obtain ⟨g3, hA3, hg3, _, ci3, hri3⟩ := hG5.row hu
                  simp only at hA3
                  injection hA3 with hA3 _ _
                  injection hA3 with hA3
                  injection hA3 with hA3 _ _
                  have di3 := hri3.cell hv
                  have fi3 := hri3.free v
                  obtain ⟨n0, hn0⟩ : ∃ n0, n0 = (othL (Pw.take j) (P : Int)).length := ⟨_, rfl⟩
                  have hn16 : n0 ≤ 16 := by rw [hn0]; exact hol
                  rw [← hn0]
                  have HNO := Lib.hid hyes; have HN0 := Lib.hid hn0
                  clear hyes hn0 hge huv
                  subst hA3
                  have hUi : (u : Int) < (L.length : Int) := by omega
                  have hVi : (v : Int) < (K : Int) := by omega
                  go_wp2_with fail
                  go_region
                  go_wp2_with fail
                  go_roundw
                  case rel =>
                    have hG6 := hG5.setAt hu hv (-1)
                    have hB6 := hB5.setCell (p := ⟨Bk u, v, none⟩) (by dsimp only; exact HBL.out u hu) (.int .i64 (-1))
                    have hP6 := hP2.grown (grown_setCell (grown_refl wr _) ⟨Bk u, v, none⟩ (.int .i64 (-1)) rfl) (fun k' e => by simp at e; have := HBK.out u hu; omega)
                    refine ⟨j + 1, by omega, by go_num, by rw [HNO.out, List.length_append, ← HN0.out]; go_num, hB6.drew, ?_, hP6.below (Below.refl _ _).drew⟩
                    rw [HNO.out]
                    exact (hG6.congr (fun _ _ => rfl) (fun a _ b _ => by rw [homeF_snoc])).below (Below.refl _ _).drew
                  case measure => simp [intOf]; omega
              · obtain rfl : j = Pw.length := by omega
                rw [List.take_of_length_le (Nat.le_refl _)] at hG5 ⊢
                go_wp2_with fail
                go_ret2
                exact ⟨some ⟨g, 0, none⟩, cv, Bk, C, by rw [HN.out, HGO.out]; rfl, by rw [HF.out, HGF.out, HGO.out]; exact hG5.mono (by omega), (below1 w (.cells #[.int .i64 q, .int .i64 f, .int .i64 k, .slice A1 st.length c1, .slice A2 sf.length c2] 29)).trans (hB5.mono (by omega))⟩
          · have hgo : goL q k st sf (stF q L) P T x = [] := HGL.out
            have HGO := Lib.hid hgo
            clear hgo
            go_wp2_with fail
            go_ret2
            exact ⟨some ⟨g, 0, none⟩, cv, Bk, C, by rw [HN.out, HGO.out]; rfl, by rw [HF.out, HGF.out, HGO.out, homeF_nil]; exact hG4.mono (by omega), hb4⟩
      · obtain ⟨y, hy⟩ : ∃ y, y = y0 + x := ⟨_, rfl⟩
        have hnew : newX y0 x = y := by rw [newX, if_neg (by omega), hy]
        have i5 : IntKind.i64.wrap (y0 + x) = y := by rw [hy]; exact IntWalk.i64_in _ (by omega)
        rw [hnew] at hyb
        have HNEW := Lib.hid hnew
        clear hnew hy
        go_wp2_with fail
        have hG3 := hGr.setAt hlt htK y
        have hB3 : Below (w.heap.size + 1) (w.alloc (.cells #[.int .i64 q, .int .i64 f, .int .i64 k, .slice A1 st.length c1, .slice A2 sf.length c2] 29)) (wr.setCell ⟨Bk P, T, none⟩ (.int .i64 y)) := hB.setCell hbP _
        clear hGr hB hri ci di fi qq hbw
        generalize (wr.setCell ⟨Bk P, T, none⟩ (.int .i64 y)) = w3 at *
        have hbw := (below1 w (.cells #[.int .i64 q, .int .i64 f, .int .i64 k, .slice A1 st.length c1, .slice A2 sf.length c2] 29)).trans (hB3.mono (by omega))
        have qq := boxcells hB3
        have hs3 : w.heap.size + 1 ≤ w3.heap.size := by have := hB3.size; simpa using this
        have hU : (fun z i => if z = P ∧ i = T then y else stF q L z i) = updX (stF q L) P T y := rfl
        rw [hU] at hG3
        have hyn : newX (stF q L P T) x = y := (by rw [← HY0.out]; exact HNEW.out)
        cases hin : inB y 0 (q - 1)
        · have hgl : goL q k st sf (stF q L) P T x = [] := goL_out (by rw [hyn]; exact hin)
          have hgf : goF q k st sf (stF q L) P T x = updX (stF q L) P T y := by rw [goF, hgl, homeF_nil, hyn]
          have HGL := Lib.hid hgl; have HGF := Lib.hid hgf; have HIN := Lib.hid hin
          clear hgl hgf hin hyn
          go_wp2_with fail
          refine (trSquare_no _ _ _ _ _ _ _ _ _ _ _ _ q4 q60 HIN.out).mono ?_
          rintro e w4 ⟨rfl, hx4⟩
          have hG4 := hG3.below hx4
          have hb4 := hbw.trans (hx4.mono hbw.size)
          go_wp2_with fail
          go_ret2
          exact ⟨some ⟨g, 0, none⟩, cv, Bk, C, by rw [HN.out, HGL.out]; rfl, by rw [HF.out, HGF.out]; exact hG4.mono (by omega), hb4⟩
        · have hsq := sqr_lt (st := st) (p := P) (show 0 < q by omega) hin
          obtain ⟨sq, hsqe⟩ : ∃ sq : Nat, (sq : Int) = sqr q st P y := ⟨(sqr q st P y).toNat, by omega⟩
          rw [← hsqe] at hsq
          have hs0 : ¬ (sq : Int) < 0 := by omega
          have hgl : goL q k st sf (stF q L) P T x = sentL (safeB sf sq) (pawnsL q k st (updX (stF q L) P T y) (sq : Int)) (P : Int) := by
            rw [goL_in (by rw [hyn]; exact hin), hyn, ← hsqe]; rfl
          have hgf : goF q k st sf (stF q L) P T x = homeF (updX (stF q L) P T y) (goL q k st sf (stF q L) P T x) := by rw [goF, hyn]
          obtain ⟨r, hr⟩ : ∃ r, r = safeB sf sq := ⟨_, rfl⟩
          have hr' : r = hasB sf (sq : Int) := hr
          rw [← hr] at hgl
          have HGL := Lib.hid hgl; have HGF := Lib.hid hgf; have HIN := Lib.hid hin; have HSQ := Lib.hid hsqe; have HR := Lib.hid hr'
          clear hgl hgf hin hyn hsqe hr hr'
          go_wp2_with fail
          refine (trSquare_yes _ _ _ _ _ _ _ _ st P y _ (h1.go hbw) q4 q60 hPn (st0 P hPn) HIN.out).mono ?_
          rintro e w4 ⟨rfl, hx4⟩
          rw [← HSQ.out]
          have hG4 := hG3.below hx4
          have hB4 := box_on hB3 hx4 hs3
          have hb4 := hbw.trans (hx4.mono hbw.size)
          have qq4 := boxcells hB4
          have hs4 := Nat.le_trans hs3 hx4.size
          clear hG3 hB3 qq hbw
          go_wp2_with fail
          refine (l1Has_any _ _ _ sf (sq : Int) _ (h2.go hb4) rfl).mono ?_
          rintro e w' ⟨rfl, rfl⟩
          rw [← HR.out]
          cases r
          · obtain ⟨Lu, hLu⟩ : ∃ Lu, Lu = upL L P T y := ⟨_, rfl⟩
            have hLul : Lu.length = L.length := by rw [hLu]; exact upL_len
            have hLus : Sta q k st.length Lu := by rw [hLu]; exact sta_upL hS ⟨by omega, by omega⟩
            have hLuF : stF q Lu = updX (stF q L) P T y := by rw [hLu]; exact stF_upL hlt htl
            have hLur : ∀ z (hz : z < Lu.length), K = Lu[z].length ∧ Lu[z].length ≤ 1048576 ∧ ∀ j (hj : j < Lu[z].length), updX (stF q L) P T y z j = Lu[z][j] := fun z hz => by
              have := hLus.row z hz
              have := HKk.out
              exact ⟨by omega, by omega, fun j hj => by rw [← hLuF]; exact stF_at hz hj⟩
            have hRG : RG w4 w4.heap.size (some ⟨g, 0, none⟩) Lu := by
              have hg := hG4
              rw [← hLul] at hg
              exact hg.rg (by rw [hLul]; exact h3.1) hLur
            have htr := trAt_any q f k A1 A2 (some ⟨g, 0, none⟩) c1 sf.length c2 cv st Lu (sq : Int) w4 (h1.go hb4) hRG q4 q60 (by omega) k4 n4 st0 hLus ⟨by omega, hsq.2⟩
            rw [hLuF, hLul] at htr
            have hbk : ∀ z < L.length, Bk z < w4.heap.size := fun z hz => (hG4.2.1 z hz).2.2.lt
            have hbl : ∀ z < L.length, w.heap.size + 1 ≤ Bk z := fun z hz => (hG4.2.1 z hz).1
            obtain ⟨Pw, hPw⟩ : ∃ Pw, Pw = pawnsL q k st (updX (stF q L) P T y) (sq : Int) := ⟨_, rfl⟩
            have hPwm : ∀ j (h : j < Pw.length), ∃ u v : Nat, u < L.length ∧ v < K ∧ Pw[j] = ((u : Int), (v : Int)) := fun j h => by
              subst hPw
              obtain ⟨u, v, hu, hv, _, e⟩ := pawnsL_mem.1 (List.getElem_mem h)
              exact ⟨u, v, by have := hS.len; omega, by have := HK.out; omega, e⟩
            have hPwl : Pw.length ≤ 16 := by rw [hPw]; exact pawnsL_len n4 k4
            have hgo : goL q k st sf (stF q L) P T x = othL Pw (P : Int) := by rw [HGL.out, hPw]; rfl
            rw [← hPw] at htr
            have HPM := Lib.hid hPwm; have HBK := Lib.hid hbk; have HBL := Lib.hid hbl; have HGO := Lib.hid hgo
            clear hLu hLus hLuF hLur hRG hPw hPwm hbk hbl hgo
            go_wp2_with fail
            refine htr.mono ?_
            rintro e w5 ⟨v2, Bk2, C2, rfl, hP2, hx5⟩
            have hG5 := hG4.below hx5
            have hB5 := box_on hB4 hx5 hs4
            clear htr hG4 hB4 hb4 qq4 hx5
            obtain ⟨A2v, c2v, rfl⟩ := hP2.slice
            go_wp2_with fail
            go_loopw [16, 69] (fun s i wi => ∃ j : Nat, j ≤ Pw.length ∧ i = .int .i64 j ∧ s = .int .i64 ((othL (Pw.take j) (P : Int)).length : Int) ∧ Below (w.heap.size + 1) (w.alloc (.cells #[.int .i64 q, .int .i64 f, .int .i64 k, .slice A1 st.length c1, .slice A2 sf.length c2] 29)) wi ∧ Grid wi (w.heap.size + 1) 22 3 (.slice (some ⟨g, 0, none⟩) L.length cv) L.length (fun _ => K) (homeF (updX (stF q L) P T y) (othL (Pw.take j) (P : Int))) Bk C ∧ Grid wi w4.heap.size 22 3 (.slice A2v Pw.length c2v) Pw.length (fun _ => 2) (pF Pw) Bk2 C2) (fun _ i _ => Pw.length - (intOf i).toNat)
            case atStart => exact ⟨0, Nat.zero_le _, rfl, rfl, hB5, hG5, hP2⟩
            case round =>
              clear hB5 hG5 hP2
              obtain ⟨j, hj, rfl, rfl, hB5, hG5, hP2⟩ := hrel
              by_cases hjl : j < Pw.length
              · obtain ⟨g2, hA2, hgl2, _, ci2, hri2⟩ := hP2.row hjl
                simp only at hA2
                injection hA2 with hA2 _ _
                subst hA2
                obtain ⟨u, v, hu, hv, huv⟩ := HPM.out j hjl
                have hge : Pw.getD j (0, 0) = ((u : Int), (v : Int)) := by rw [List.getD_eq_getElem?_getD, List.getElem?_eq_getElem hjl, huv]; rfl
                have e0 := hri2.cell (k := 0) (by omega)
                have e1 := hri2.cell (k := 1) (by omega)
                simp only [pF, hge, if_true] at e0
                simp only [pF, hge, show ¬ (1 = 0) by omega, if_false] at e1
                have hol : (othL (Pw.take j) (P : Int)).length ≤ 16 := Nat.le_trans (List.length_filter_le _ _) (by simp; omega)
                by_cases hup : u = P
                · have hno := othL_no hjl (p := (P : Int)) (by rw [huv, hup]; simp)
                  have hue : (u : Int) = (P : Int) := by omega
                  obtain ⟨n0, hn0⟩ : ∃ n0, n0 = (othL (Pw.take j) (P : Int)).length := ⟨_, rfl⟩
                  rw [← hn0]
                  rw [hue] at e0
                  have HNO := Lib.hid hno; have HN0 := Lib.hid hn0
                  clear hno hn0 hue hge huv
                  go_wp2_with fail
                  go_roundw
                  case rel => exact ⟨j + 1, by omega, by go_num, by rw [HNO.out, ← HN0.out], hB5, by rw [HNO.out]; exact hG5, hP2⟩
                  case measure => simp [intOf]; omega
                · have hyes := othL_yes hjl (p := (P : Int)) (by rw [huv]; simp; omega)
                  rw [huv] at hyes
                  have hne : ¬ (u : Int) = (P : Int) := by omega
                  obtain ⟨g3, hA3, hg3, _, ci3, hri3⟩ := hG5.row hu
                  simp only at hA3
                  injection hA3 with hA3 _ _
                  injection hA3 with hA3
                  injection hA3 with hA3 _ _
                  have di3 := hri3.cell hv
                  have fi3 := hri3.free v
                  obtain ⟨n0, hn0⟩ : ∃ n0, n0 = (othL (Pw.take j) (P : Int)).length := ⟨_, rfl⟩
                  have hn16 : n0 ≤ 16 := by rw [hn0]; exact hol
                  rw [← hn0]
                  have HNO := Lib.hid hyes; have HN0 := Lib.hid hn0
                  clear hyes hn0 hge huv
                  subst hA3
                  have hUi : (u : Int) < (L.length : Int) := by omega
                  have hVi : (v : Int) < (K : Int) := by omega
                  go_wp2_with fail
                  go_region
                  go_wp2_with fail
                  go_roundw
                  case rel =>
                    have hG6 := hG5.setAt hu hv (-1)
                    have hB6 := hB5.setCell (p := ⟨Bk u, v, none⟩) (by dsimp only; exact HBL.out u hu) (.int .i64 (-1))
                    have hP6 := hP2.grown (grown_setCell (grown_refl wr _) ⟨Bk u, v, none⟩ (.int .i64 (-1)) rfl) (fun k' e => by simp at e; have := HBK.out u hu; omega)
                    refine ⟨j + 1, by omega, by go_num, by rw [HNO.out, List.length_append, ← HN0.out]; go_num, hB6.drew, ?_, hP6.below (Below.refl _ _).drew⟩
                    rw [HNO.out]
                    exact (hG6.congr (fun _ _ => rfl) (fun a _ b _ => by rw [homeF_snoc])).below (Below.refl _ _).drew
                  case measure => simp [intOf]; omega
              · obtain rfl : j = Pw.length := by omega
                rw [List.take_of_length_le (Nat.le_refl _)] at hG5 ⊢
                go_wp2_with fail
                go_ret2
                exact ⟨some ⟨g, 0, none⟩, cv, Bk, C, by rw [HN.out, HGO.out]; rfl, by rw [HF.out, HGF.out, HGO.out]; exact hG5.mono (by omega), (below1 w (.cells #[.int .i64 q, .int .i64 f, .int .i64 k, .slice A1 st.length c1, .slice A2 sf.length c2] 29)).trans (hB5.mono (by omega))⟩
          · have hgo : goL q k st sf (stF q L) P T x = [] := HGL.out
            have HGO := Lib.hid hgo
            clear hgo
            go_wp2_with fail
            go_ret2
            exact ⟨some ⟨g, 0, none⟩, cv, Bk, C, by rw [HN.out, HGO.out]; rfl, by rw [HF.out, HGF.out, HGO.out, homeF_nil]; exact hG4.mono (by omega), hb4⟩

end Go.Proofs.Ytmhffdgfkgdmlaa
