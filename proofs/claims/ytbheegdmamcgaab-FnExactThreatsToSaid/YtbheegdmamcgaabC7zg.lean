/-
  Tracks: the model's trThreat.
-/
import Derived.Test.YtbheegdmamcgaabC7z
import Derived.Test.YtbheegdmamcgaabC7v
import Derived.Test.YtbheegdmamcgaabM64
import Derived.StillTailTactics
namespace Go.Proofs.Ytbheegdmamcgaab
open Go.RowKit

set_option maxRecDepth 100000 in
set_option maxHeartbeats 4000000 in
theorem trThreat_any (q f k : Int) (A1 A2 A3 : Option Addr) (c1 c2 c3 : Nat) (st sf : List Int) (L : List (List Int)) (P T : Nat) (w : World) (h1 : RI w w.heap.size A1 st) (h2 : RI w w.heap.size A2 sf) (h3 : RG w w.heap.size A3 L) (hc : st.length ≤ c1) (hT : Trk q f k st sf) (hS : Sta q k st.length L) (hlt : P < L.length) (htl : T < L[P].length) :
    Calls Try.prog 61 #[.agg #[.int .i64 q, .int .i64 f, .int .i64 k, .slice A1 st.length c1, .slice A2 sf.length c2], .slice A3 L.length c3, .int .i64 (P : Int), .int .i64 (T : Int)] w fun e w' => e = .returned (.bool (thrB q f k st sf (stF q L) P T)) ∧ Below w.heap.size w w' := by
  have hl := h1.1
  have hl2 := h2.1
  have hl3 := h3.1
  have HTT := Lib.hid hT; have HST := Lib.hid hS
  obtain ⟨q4, q60, f1, f8, k1, k4, n2, n4, st0, sf0, sfl⟩ := hT
  obtain ⟨b, off, A', c', rfl, hbb, hc0, hrow⟩ := h3.at_ (Below.refl _ w) hlt
  obtain ⟨b2, off2, rfl, hb2, h5⟩ := hrow.at_ (Below.refl _ _) htl
  have hrl := hS.row P hlt
  have hLn := hS.len
  have hxb := hS.val P hlt T htl
  have hFx : stF q L P T = L[P][T] := stF_at hlt htl
  obtain ⟨m, hm⟩ : ∃ m, m = L[P].length := ⟨_, rfl⟩
  obtain ⟨x, hx⟩ : ∃ x, x = L[P][T] := ⟨_, rfl⟩
  have hTm : T < m := by omega
  rw [← hm] at hc0 hrl
  rw [← hx] at h5 hxb hFx
  have HFX := Lib.hid hFx
  have HM := Lib.hid hm
  have hPn : P < st.length := by omega
  have hs0 := st0 P hPn
  have hm4 : m ≤ 4 := by omega
  have iP : (P : Int) < (L.length : Int) := by omega
  have iT : (T : Int) < (m : Int) := by omega
  have HRL := Lib.hid hrl; have HLN := Lib.hid hLn
  clear hrow hm hx hFx htl hS hrl hLn
  obtain ⟨RB, hRB⟩ : ∃ RB, RB = thrB q f k st sf (stF q L) P T := ⟨_, rfl⟩
  rw [← hRB]
  have HRB := Lib.hid hRB
  clear hRB
  go_enter Try.func61, Try.ntmps61
  go_wp2_with fail
  obtain ⟨W1, hW1⟩ : ∃ W1, W1 = w.alloc (.cells #[.int .i64 q, .int .i64 f, .int .i64 k, .slice A1 st.length c1, .slice A2 sf.length c2] 44) := ⟨_, rfl⟩
  have hbx : Below (w.heap.size + 1) (w.alloc (.cells #[.int .i64 q, .int .i64 f, .int .i64 k, .slice A1 st.length c1, .slice A2 sf.length c2] 44)) W1 := by rw [hW1]; exact Below.refl _ _
  have hbw1 : Below w.heap.size w W1 := (below1 _ _).trans (hbx.mono (by omega))
  have qq := boxcells hbx
  have e0 := (bcell hbw1 hbb).trans hc0
  have e1 := (bcell hbw1 hb2).trans h5
  have hsz1 : w.heap.size < W1.heap.size := by have := hbx.size; simp at this; omega
  have hbl : b < W1.heap.size := by omega
  have hbl2 : b2 < W1.heap.size := by omega
  rw [← hW1]
  clear hW1
  go_still_tail 9, (by kernel_rfl)
  change wpList _ _ _ _ _ W1.drew
  obtain ⟨W2, hW2⟩ : ∃ W2, W2 = W1.drew := ⟨_, rfl⟩
  have hb : Below (w.heap.size + 1) (w.alloc (.cells #[.int .i64 q, .int .i64 f, .int .i64 k, .slice A1 st.length c1, .slice A2 sf.length c2] 44)) W2 := by rw [hW2]; exact hbx.drew
  have hbw : Below w.heap.size w W2 := (below1 _ _).trans (hb.mono (by omega))
  rw [← hW2]
  clear hW2 hbx qq e0 e1 hbw1 hsz1 hbl hbl2
  cases hin : inB x 0 (q - 1)
  · have hv : false = RB := (HRB.out.trans (thrB_off (by rw [HFX.out]; exact hin) (by omega))).symm
    have HV := Lib.hid hv
    have HIN := Lib.hid hin
    clear hv hin
    go_wp2_with fail
    refine (trSquare_no q f k A1 A2 st.length c1 sf.length c2 P x _ q4 q60 HIN.out).mono ?_
    rintro e w3 ⟨rfl, hx3⟩
    go_wp2
    go_ret
    exact ⟨ret_bool HV.out, hbw.trans (hx3.mono hbw.size)⟩
  have hon := hin
  have hsq := (sqr_lt (st := st) (p := P) (by omega) hin).1
  have HIN := Lib.hid hin
  clear hin hon
  obtain ⟨K, hK⟩ := Int.eq_ofNat_of_zero_le (show 0 ≤ k by omega)
  obtain ⟨E, hE⟩ := Int.eq_ofNat_of_zero_le (show 0 ≤ f by omega)
  have HK := Lib.hid hK; have HE := Lib.hid hE
  have hE8 : E ≤ 8 := by omega
  have hKt : k.toNat = K := by omega
  have hEt : f.toNat = E := by omega
  obtain ⟨C, hC⟩ : ∃ C : Nat → Nat → Nat → Bool, C = fun o t j => thr1 q f k st sf (stF q L) P T o t j := ⟨_, rfl⟩
  have hB0 : thrB q f k st sf (stF q L) P T = thrA C E (K * E) P L.length := by unfold thrB; rw [hKt, hEt, hC, HLN.out]
  have hC1 : ∀ o t j, C o t j = thr1 q f k st sf (stF q L) P T o t j := fun o t j => by rw [hC]
  have HRC := Lib.hid (HRB.out.trans hB0)
  have HC := Lib.hid hC1
  have HKt := Lib.hid hKt
  clear hB0 hC hC1 hKt hEt hK hE
  go_wp2_with fail
  refine (trSquare_yes q f k A1 A2 c1 sf.length c2 st P x _ (h1.go hbw) q4 q60 hPn hs0 HIN.out).mono ?_
  rintro e w3 ⟨rfl, hx3⟩
  have hb3 := box_on hb hx3 (by have := hb.size; simpa using this)
  have hsq' : ¬ sqr q st P x < 0 := by omega
  obtain ⟨z, hz⟩ : ∃ z, z = sqr q st P x := ⟨_, rfl⟩
  rw [← hz] at hsq' ⊢
  clear hz hsq hb hbw hx3 hs0
  go_wp2_with fail
  go_loopw [9, 10, 11, 12, 13, 14, 15, 29] (fun _ _ _ _ _ _ _ i wr => ∃ o : Nat, o ≤ L.length ∧ i = .int .i64 o ∧ Below (w.heap.size + 1) (w.alloc (.cells #[.int .i64 q, .int .i64 f, .int .i64 k, .slice A1 st.length c1, .slice A2 sf.length c2] 44)) wr ∧ Hid (thrA C E (K * E) P o = false)) (fun _ _ _ _ _ _ _ i _ => L.length - (intOf i).toNat)
  case atStart => exact ⟨0, Nat.zero_le _, rfl, hb3, Lib.hid rfl⟩
  case round =>
    clear hb3
    obtain ⟨o, ho, rfl, hB, HA⟩ := hrel
    have hbw : Below w.heap.size w wr := (below1 _ _).trans (hB.mono (by omega))
    by_cases hol : o < L.length
    · obtain ⟨b3, off3, A5, c5, e3, hb3, hc3, hrow⟩ := h3.at_ hbw hol
      simp at e3
      obtain ⟨rfl, rfl⟩ := e3
      have hrl2 := HST.out.row o hol
      have hval := HST.out.val o hol
      have hGv : ∀ t (h : t < L[o].length), stF q L o t = L[o][t] := fun t h => stF_at hol h
      obtain ⟨xs, hxs⟩ : ∃ xs, xs = L[o] := ⟨_, rfl⟩
      have hval' : ∀ t (h : t < xs.length), -1 ≤ xs[t] ∧ xs[t] ≤ q := fun t h => by subst hxs; exact hval t h
      have hGv' : ∀ t (h : t < xs.length), stF q L o t = xs[t] := fun t h => by subst hxs; exact hGv t h
      have hon : o < st.length := by have := HLN.out; omega
      have hrow0 : RI w w.heap.size A5 xs := by
        obtain ⟨b4, off4, A6, c6, e4, _, hc4, hr4⟩ := h3.at_ (Below.refl _ w) hol
        simp at e4
        obtain ⟨rfl, rfl⟩ := e4
        have : some (Value.slice A6 L[o].length c6) = some (Value.slice A5 L[o].length c5) := (((bcell hbw hbb).trans hc4).symm.trans hc3)
        injection this with this
        injection this with this _ _
        subst this
        rw [hxs]; exact hr4
      rw [← hxs] at hc3 hrl2
      have HXS := Lib.hid hxs
      have HG := Lib.hid hGv'
      have hxK : xs.length = K := by have := HK.out; omega
      have HXK := Lib.hid hxK
      have hxs4 : xs.length ≤ 4 := by have := HK.out; omega
      have HRL2 := Lib.hid hrl2
      clear hval hGv hGv' hrow hxs hxK hrl2
      go_wp2_with fail
      go_loopw [11, 12, 13, 14, 15, 36] (fun _ _ _ _ _ i wi => ∃ t : Nat, t ≤ xs.length ∧ i = .int .i64 t ∧ Below (w.heap.size + 1) (w.alloc (.cells #[.int .i64 q, .int .i64 f, .int .i64 k, .slice A1 st.length c1, .slice A2 sf.length c2] 44)) wi ∧ Hid (o = P ∨ thrO (C o) E (t * E) = false)) (fun _ _ _ _ _ i _ => xs.length - (intOf i).toNat)
      case atStart => exact ⟨0, Nat.zero_le _, rfl, hB, Lib.hid (.inr (by rw [Nat.zero_mul]; rfl))⟩
      case round =>
        clear hB hbw hc3
        obtain ⟨t, ht, rfl, hB, HO⟩ := hrel
        have hbw : Below w.heap.size w wr := (below1 _ _).trans (hB.mono (by omega))
        by_cases hta : t < xs.length
        · obtain ⟨b6, off6, rfl, hb6, h7⟩ := hrow0.at_ hbw hta
          have hyb := hval' t hta
          have hGt := HG.out t hta
          obtain ⟨y, hy⟩ : ∃ y, y = xs[t] := ⟨_, rfl⟩
          rw [← hy] at h7 hyb hGt
          have HGT := Lib.hid hGt
          clear hy hGt
          go_wp2_with fail
          go_loopw [13, 14, 15] (fun i _ _ wj => ∃ j : Nat, j ≤ E ∧ i = .int .i64 ((j : Int) + 1) ∧ Below (w.heap.size + 1) (w.alloc (.cells #[.int .i64 q, .int .i64 f, .int .i64 k, .slice A1 st.length c1, .slice A2 sf.length c2] 44)) wj ∧ Hid (o = P ∨ thrO (C o) E (t * E + j) = false)) (fun i _ _ _ => E + 1 - (intOf i).toNat)
          case atStart => exact ⟨0, Nat.zero_le _, rfl, hB, HO⟩
          case round =>
            clear hB hbw h7
            obtain ⟨j, hj, rfl, hB, HJ⟩ := hrel
            have hbw : Below w.heap.size w wr := (below1 _ _).trans (hB.mono (by omega))
            have qq := boxcells hB
            have hsz : w.heap.size + 1 ≤ wr.heap.size := by have := hB.size; simpa using this
            by_cases hjl : j < E
            · have hjf : (j : Int) + 1 ≤ f := by have := HE.out; omega
              by_cases hoP : o = P
              · have hne : ((o : Int) == (P : Int)) = true := by rw [hoP]; simp
                go_wp2_with fail
                go_roundw
                case rel => exact ⟨j + 1, by omega, by go_num, hB, Lib.hid (.inl hoP)⟩
                case measure => simp [intOf]; omega
              · have hne : ((o : Int) == (P : Int)) = false := beq_eq_false_iff_ne.2 (by omega)
                have hO : thrO (C o) E (t * E + j) = false := HJ.out.resolve_left hoP
                have hsu := thrO_at (c := C o) (t := t) hjl
                rw [hO, Bool.false_or, HC.out] at hsu
                obtain ⟨r, hr⟩ : ∃ r, canB q f y ((j : Int) + 1) = r := ⟨_, rfl⟩
                have HR := Lib.hid hr; have HSU := Lib.hid hsu
                clear hO hsu hr
                go_wp2_with fail
                refine (trCan_any q f k A1 A2 st.length c1 sf.length c2 y ((j : Int) + 1) _ hyb.2 q60 (by omega) (by omega)).mono ?_
                rintro e w5 ⟨rfl, hx5⟩
                rw [HR.out]
                have hB5 := box_on hB hx5 hsz
                have hbw5 : Below w.heap.size w w5 := (below1 _ _).trans (hB5.mono (by omega))
                have hsz5 := Nat.le_trans hsz hx5.size
                cases r
                · go_wp2_with fail
                  go_roundw
                  case rel => exact ⟨j + 1, by omega, by go_num, hB5, Lib.hid (.inr (by rw [← Nat.add_assoc, HSU.out]; exact thr1_no (by rw [HGT.out]; exact HR.out)))⟩
                  case measure => simp [intOf]; omega
                · obtain ⟨n, hn⟩ : ∃ n : Int, n = ((goL q k st sf (stF q L) o t ((j : Int) + 1)).length : Int) := ⟨_, rfl⟩
                  obtain ⟨FF, hFF⟩ : ∃ FF, FF = goF q k st sf (stF q L) o t ((j : Int) + 1) := ⟨_, rfl⟩
                  have ht1 : thr1 q f k st sf (stF q L) P T o t j = decide (FF P T < 0) := by
                    rw [hFF]
                    exact thr1_on hoP (by rw [HFX.out]; exact HIN.out) (by rw [HGT.out]; exact HR.out)
                  have HN := Lib.hid hn; have HFF := Lib.hid hFF; have HT1 := Lib.hid ht1
                  clear hn hFF ht1
                  have qq5 := boxcells hB5
                  clear qq
                  go_wp2_with fail
                  refine (trGo_any q f k A1 A2 _ c1 c2 c3 st sf L o t ((j : Int) + 1) _ (h1.go hbw5) (h2.go hbw5) ((h3.below hbw5).more hbw5.size) hc HTT.out HST.out hol (by rw [← HXS.out]; exact hta) (by omega) (by omega) (by rw [HGT.out]; exact HR.out) n HN.out FF HFF.out).mono ?_
                  rintro e w6 ⟨A8, c8, Bk, Cc, rfl, hG, hx6⟩
                  rw [HKt.out] at hG
                  obtain ⟨g8, e8, _, hg8, hc8, hr8⟩ := hG.row hlt
                  simp only at e8
                  injection e8 with e8 _ _
                  subst e8
                  have d8 := hr8.cell (k := T) (by have := HRL.out; have := HK.out; omega)
                  obtain ⟨u, hu⟩ : ∃ u, u = FF P T := ⟨_, rfl⟩
                  rw [← hu] at d8
                  have HU := Lib.hid hu
                  have hB6 := box_on hB5 hx6 hsz5
                  have iTK : (T : Int) < (K : Int) := by have := HRL.out; have := HK.out; omega
                  clear hu hG hr8 hx6
                  go_wp2_with fail
                  · have hu0 : u < 0 := by assumption
                    have hend : thrA C E (K * E) P L.length = true := thrA_hit (m := t * E + j + 1) hoP (by
                      have : (t + 1) * E ≤ K * E := Nat.mul_le_mul_right _ (by have := HXK.out; omega)
                      rw [Nat.succ_mul] at this
                      omega) hol (by rw [HSU.out, HT1.out, ← HU.out]; exact decide_eq_true hu0)
                    go_ret
                    exact ⟨ret_bool (HRC.out.trans hend).symm, (below1 _ _).trans (hB6.mono (by omega))⟩
                  · have hu0 : ¬ u < 0 := by omega
                    go_roundw
                    case rel => exact ⟨j + 1, by omega, by go_num, hB6, Lib.hid (.inr (by rw [← Nat.add_assoc, HSU.out, HT1.out, ← HU.out]; exact decide_eq_false hu0))⟩
                    case measure => simp [intOf]; omega
            · obtain rfl : j = E := by omega
              have hjf : ¬ (j : Int) + 1 ≤ f := by have := HE.out; omega
              go_wp2_with fail
              go_roundw
              case rel => exact ⟨t + 1, by omega, by go_num, hB, by rw [Nat.succ_mul]; exact HJ⟩
              case measure => simp [intOf]; omega
        · obtain rfl : t = xs.length := by omega
          go_wp2_with fail
          go_roundw
          case rel => exact ⟨o + 1, by omega, by go_num, hB, Lib.hid (thrA_next HA.out (by rw [← HXK.out]; exact HO.out))⟩
          case measure => simp [intOf]; omega
    · obtain rfl : o = L.length := by omega
      go_wp2
      go_ret
      exact ⟨ret_bool (HRC.out.trans HA.out).symm, hbw⟩
end Go.Proofs.Ytbheegdmamcgaab
