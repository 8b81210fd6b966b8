/-
  CountFewest, the model's, and both together.
-/
import Derived.Test.YtiekdokgjdgajaaC1ab
import Derived.Test.YtiekdokgjdgajaaC1x
import Derived.Test.YtiekdokgjdgajaaM11
import Derived.Deep.RegionWith
namespace Go.Proofs.Ytiekdokgjdgajaa
open Go.RowKit

theorem l1Least_any (a b v : Int) (w : World) (h : (a < b ∧ v = a) ∨ (¬ a < b ∧ v = b)) :
    Calls Try.prog 86 #[.int .i64 a, .int .i64 b] w (fun e w' => e = .returned (.int .i64 v) ∧ w' = w) := by
  rcases h with ⟨h, rfl⟩ | ⟨h, rfl⟩
  · go_enter Try.func86, Try.ntmps86
    go_wp2
    go_ret
    exact ⟨rfl, rfl⟩
  · go_enter Try.func86, Try.ntmps86
    go_wp2
    go_ret
    exact ⟨rfl, rfl⟩

set_option maxRecDepth 100000 in
theorem specCountFewest_no (s f o : Int) (A : Option Addr) (c : Nat) (sq : Int) (js : List (Int × Int)) (w : World) (hj : RJ w w.heap.size A js) (ha : asked s f o js sq = false) :
    Calls Try.prog 48 #[.agg #[.int .i64 s, .int .i64 f, .int .i64 o, .slice A js.length c], .int .i64 sq] w (NumIs w (0, false)) := by
  have hl := hj.1
  have HA := Lib.hid ha; clear ha
  go_enter Try.func48, Try.ntmps48
  go_wp2_with (go_at_call 57; refine (sqAsked_any _ _ _ _ _ _ _ _ (hj.go (below1 _ _))).mono ?_; rintro e w2 ⟨rfl, hx⟩; rw [HA.out])
  go_ret2
  exact ⟨rfl, (below1 _ _).trans (hx.mono (by simp))⟩

set_option maxRecDepth 100000 in
set_option maxHeartbeats 2000000 in
theorem specCountFewest_yes (s f o : Int) (A : Option Addr) (c : Nat) (q : Nat) (js : List (Int × Int)) (R : Int × Bool) (w : World) (hj : RJ w w.heap.size A js) (ha : asked s f o js q = true) (hR : CountR s f o js q R) :
    Calls Try.prog 48 #[.agg #[.int .i64 s, .int .i64 f, .int .i64 o, .slice A js.length c], .int .i64 q] w (NumIs w R) := by
  have hl := hj.1
  have hz := good_sizes (asked_good ha)
  have hq := onSq_in (asked_on ha)
  obtain ⟨S, rfl⟩ := Int.eq_ofNat_of_zero_le (show 0 ≤ s by omega)
  have iw : IntKind.i64.wrap ((S : Int) + 1) = ((S + 1 : Nat) : Int) := by rw [IntWalk.i64_in _ (by omega)]; omega
  obtain ⟨n, hn⟩ : ∃ n : Nat, S + 1 = n := ⟨_, rfl⟩
  rw [hn] at iw
  have hn1 : n ≤ 101 := by omega
  have iS : (S : Int) < (n : Int) := by omega
  have iSn : S < n := by omega
  have iS0 : (0 : Int) ≤ (S : Int) := by omega
  have hqn : q < n := by omega
  have hqi : (q : Int) < (n : Int) := by omega
  have HA := Lib.hid ha; have HR := Lib.hid hR; have HN := Lib.hid hn; clear ha hR hn
  obtain ⟨j0, hji, hjz0, hjz1, hjz2⟩ := info_parts infoInt1
  go_enter Try.func48, Try.ntmps48
  go_wp2_with fail
  refine (sqAsked_any _ _ _ _ _ _ _ _ (hj.go (below1 _ _))).mono ?_
  rintro e w2 ⟨rfl, hx⟩
  rw [HA.out]
  have hb := box_on (Below.refl _ _) hx (by simp)
  have bc := boxcells hb
  have hB2 := (below1 w (.cells #[.int .i64 S, .int .i64 f, .int .i64 o, .slice A js.length c] 30)).trans (hb.mono (by omega))
  clear hx
  go_wp2_with fail
  refine (sqFar_any _ _ _ _ _ _ _ (hj.go hB2) (asked_good HA.out)).mono ?_
  rintro e w3 ⟨g, F, L, rfl, hg, hrow, hyes, hno, hL, hx3⟩
  have hs2 : w.heap.size + 1 ≤ w2.heap.size := by have := hb.size; simpa using this
  replace hb := box_on hb hx3 (by omega)
  have hSn : ((S : Int).toNat) + 1 = n := by rw [Int.toNat_natCast]; exact HN.out
  rw [hSn] at hrow ⊢
  have hgs := hrow.lt
  have d1 := hrow.cell hqn
  have HY := Lib.hid hyes; have HNO := Lib.hid hno
  have hB3 := hB2.trans (hx3.mono hB2.size)
  clear hx3 bc hyes hno hL hB2 hSn
  cases hF : F q
  · have hr : R = (0, true) := by
      rcases HR.out with ⟨t, hd, _⟩ | ⟨e, _⟩
      · exact absurd hd.1 (HNO.out q (okB_of (asked_on HA.out)) hF _)
      · exact e
    rw [farF_no hF] at d1
    subst hr
    clear hrow hb
    go_wp2
    go_ret2
    exact ⟨rfl, hB3⟩
  · have hdq : DistB S f o js q (L q) := (HY.out q hF).2
    have hcnt : CntIs (wN S f o js (L q) q) R := by
      rcases HR.out with ⟨t, hd, h⟩ | ⟨_, hw⟩
      · rw [← Least.uniq hdq hd, pl_end (asked_good HA.out) (asked_on HA.out)] at h; exact h
      · exact absurd hdq.1 (hw _)
    obtain ⟨d, hdd⟩ : ∃ d, farF F L = d := ⟨_, rfl⟩
    have hD : ∀ (x t : Nat), d x = (t : Int) ↔ okB S js x ∧ DistB S f o js x t := by
      intro x t
      rw [← hdd]
      cases hFx : F x
      · rw [farF_no hFx]
        exact ⟨fun h => by omega, fun h => absurd h.2.1 (HNO.out x h.1 hFx _)⟩
      · rw [farF_yes hFx]
        have h1 := HY.out x hFx
        exact ⟨fun h => by have e : L x = t := (by omega); rw [← e]; exact h1, fun h => by have := Least.uniq h1.2 h.2; omega⟩
    have hdL : d q = (L q : Int) := by rw [← hdd, farF_yes hF]
    rw [hdd] at hrow
    rw [hdd, hdL] at d1
    obtain ⟨T, hTq⟩ : ∃ T, L q = T := ⟨_, rfl⟩
    rw [hTq] at hdq hcnt hdL d1
    have hT := hdq.lt (asked_good HA.out) (okB_of (asked_on HA.out))
    have hT1 : T ≤ 100 := by rw [Int.toNat_natCast] at hT; omega
    have h0 : ¬ (T : Int) < 0 := by omega
    have hdS : d (S : Int).toNat = 0 := (hD _ 0).2 ⟨by rw [Int.toNat_natCast]; exact ⟨by omega, good_end (asked_good HA.out)⟩, .refl, fun _ _ => Nat.zero_le _⟩
    have HW0 := Lib.hid (wW_start hD hdS)
    have HD := Lib.hid hD; have HDL := Lib.hid hdL; have HCNT := Lib.hid hcnt
    have bc := boxcells hb
    clear hD hdL hdq hdd hT hcnt hTq HY HNO hF hdS
    go_wp2_with (at_make; go_loud (refine wpList_make_full _ rfl _ _ 34 rfl (g + 1) 3 j0 _ 1 Try.underlying34 hji hjz0 hjz1 _ _ _ _ n rfl rfl rfl rfl (by rw [hjz2]; omega) (by unfold maxLen; omega) (by omega) ?_; intro w4 hown hgrow; have hb4 := hb.grown hgrow (by omega) (fun k e => by cases e); have bc4 := boxcells hb4; have hW4 : RowI w4 w3.heap.size 3 n (fun _ => 0) := madeI hown rfl; have e4 := hW4.cell iSn; have f4 := hW4.free S))
    obtain ⟨gw, hgw⟩ : ∃ gw, w3.heap.size = gw := ⟨_, rfl⟩
    have hr4 := hrow.grown hgrow (by simp)
    rw [hgw] at hW4 hgs ⊢
    have hgs4 := hW4.lt
    have hW5 : RowI (w4.setCell ⟨gw, S, none⟩ (.int .i64 1)) gw 3 n (wW S f o js d 1) := (hW4.set iSn 1).congr (fun i _ => by rw [← HW0.out i, Int.toNat_natCast])
    have hr5 := hr4.far (p := ⟨gw, S, none⟩) (by simp; omega) (.int .i64 1)
    have hb5 := hb4.setCell (p := ⟨gw, S, none⟩) (by simp; omega) (.int .i64 1)
    have hs5 : gw < (w4.setCell ⟨gw, S, none⟩ (.int .i64 1)).heap.size := by simpa using hgs4
    obtain ⟨w5, hw5⟩ : ∃ w5, w5 = w4.setCell ⟨gw, S, none⟩ (.int .i64 1) := ⟨_, rfl⟩
    rw [← hw5] at hW5 hr5 hb5 hs5 ⊢
    clear hw5 hW4 hr4 hb4 bc4 e4 f4 hown hgrow hgs4 bc hrow hb
    go_wp2_with fail
    go_loopw [8] (fun nv wr => ∃ r : Nat, r ≤ T ∧ nv = .int .i64 ((r : Int) + 1) ∧ Below (w.heap.size + 1) (w.alloc (.cells #[.int .i64 S, .int .i64 f, .int .i64 o, .slice A js.length c] 30)) wr ∧ RowI wr g 3 n d ∧ RowI wr gw 3 n (wW S f o js d (r + 1)) ∧ gw < wr.heap.size) (fun nv _ => T + 1 - (intOf nv).toNat)
    case atStart => exact ⟨0, Nat.zero_le _, rfl, hb5, hr5, hW5, hs5⟩
    case round =>
      clear hb5 hr5 hW5 hs5 d1
      obtain ⟨r, hr, rfl, hb, hrow, hW, hgw5⟩ := hrel
      have bc := boxcells hb
      have hs : w.heap.size + 1 ≤ wr.heap.size := by have := hb.size; simpa using this
      have hBw := (below1 w (.cells #[.int .i64 S, .int .i64 f, .int .i64 o, .slice A js.length c] 30)).trans (hb.mono (by omega))
      have d1 := hrow.cell hqn
      rw [HDL.out] at d1
      by_cases hlt : r < T
      · have h3 : (r : Int) + 1 ≤ (T : Int) := by omega
        obtain ⟨ρ, hρ⟩ : ∃ ρ : Nat, r + 1 = ρ := ⟨_, rfl⟩
        rw [hρ] at hW
        have hρi : (r : Int) + 1 = (ρ : Int) := by omega
        have HRI := Lib.hid hρi; have HRO := Lib.hid hρ
        clear hρi hρ
        have hwl : IntKind.i64.wrap ((r : Int) + 1 - 1) = (r : Int) := by rw [IntWalk.i64_in _ (by omega)]; omega
        go_wp2_with fail
        go_loopw [41] (fun iv wm => ∃ k : Nat, k ≤ n ∧ iv = .int .i64 (k : Int) ∧ Below (w.heap.size + 1) (w.alloc (.cells #[.int .i64 S, .int .i64 f, .int .i64 o, .slice A js.length c] 30)) wm ∧ RowI wm g 3 n d ∧ RowI wm gw 3 n (wV S f o js d ρ k) ∧ gw < wm.heap.size) (fun iv _ => n - (intOf iv).toNat)
        case atStart => exact ⟨0, Nat.zero_le _, rfl, hb, hrow, hW.congr (fun i _ => (wV_zero ρ i).symm), hgw5⟩
        case round =>
          clear hb hrow hW hgw5 bc hs hBw d1
          obtain ⟨k, hk, rfl, hb, hrow, hW, hgw5⟩ := hrel
          have hs : w.heap.size + 1 ≤ wr.heap.size := by have := hb.size; simpa using this
          by_cases hlk : k < n
          · have h4 : (k : Int) < (n : Int) := by omega
            obtain ⟨dk, hdk⟩ : ∃ dk, d k = dk := ⟨_, rfl⟩
            have d2 := hrow.cell hlk
            rw [hdk] at d2
            by_cases hkr : dk = (r : Int) + 1
            · have e1 : (dk == (r : Int) + 1) = true := by simpa using hkr
              have e3 : (dk != (r : Int) + 1) = false := by rw [bne, e1]; rfl
              have hkd : d k = (ρ : Int) := by rw [hdk, hkr]; exact HRI.out
              obtain ⟨hok, hdist⟩ := (HD.out k ρ).1 hkd
              rw [← HRO.out] at hdist
              have HOK := Lib.hid hok; have HDI := Lib.hid hdist; have HKD := Lib.hid hkd; have HKR := Lib.hid hkr
              have hks : (k : Int) ≤ (S : Int) := hok.1
              have hk0 : (0 : Int) ≤ (k : Int) := by omega
              have hW0 : RowI wr gw 3 n (fun i => if i = k then sat (wP S f o js d k r 0) else wV S f o js d ρ k i) := hW.congr (fun i _ => by
                by_cases e : i = k
                · subst e; rw [if_pos rfl, wV_self hkd, wP_zero]; rfl
                · rw [if_neg e])
              clear hok hdist hkd hkr hdk hW
              go_wp2_with fail
              go_loopw [10] (fun fc wi => ∃ j : Nat, j ≤ f.toNat ∧ fc = .int .i64 ((j : Int) + 1) ∧ Below (w.heap.size + 1) (w.alloc (.cells #[.int .i64 S, .int .i64 f, .int .i64 o, .slice A js.length c] 30)) wi ∧ RowI wi g 3 n d ∧ RowI wi gw 3 n (fun i => if i = k then sat (wP S f o js d k r j) else wV S f o js d ρ k i) ∧ gw < wi.heap.size) (fun fc _ => f.toNat + 1 - (intOf fc).toNat)
              case atStart => exact ⟨0, Nat.zero_le _, rfl, hb, hrow, hW0, hgw5⟩
              case round =>
                clear hb hrow hW0 hgw5 hs d2 e1 e3
                obtain ⟨j, hjf, rfl, hb, hrow, hW, hgw5⟩ := hrel
                have bc := boxcells hb
                have hs : w.heap.size + 1 ≤ wr.heap.size := by have := hb.size; simpa using this
                have hBw := (below1 w (.cells #[.int .i64 S, .int .i64 f, .int .i64 o, .slice A js.length c] 30)).trans (hb.mono (by omega))
                by_cases hlj : j < f.toNat
                · have h5 : (j : Int) + 1 ≤ f := by omega
                  have hth := nxB_eq (o := o) (asked_good HA.out) hks (show 1 ≤ j + 1 by omega)
                  have hoky := okB_next (o := o) (asked_good HA.out) f.toNat k HOK.out (j + 1) (by omega) (by omega)
                  obtain ⟨y, hy⟩ : ∃ y, nxB S o js k (j + 1) = y := ⟨_, rfl⟩
                  rw [hy] at hth hoky
                  have hyn : y < n := by have := hoky.1; omega
                  have hyi : (y : Int) < (n : Int) := by omega
                  have hcast : (((j + 1 : Nat) : Int)) = (j : Int) + 1 := by omega
                  rw [hcast] at hth
                  obtain ⟨dy, hdy⟩ : ∃ dy, d y = dy := ⟨_, rfl⟩
                  have hgs5 : g < wr.heap.size := by omega
                  have HTH := Lib.hid hth; have HYE := Lib.hid hy; have HDY := Lib.hid hdy
                  clear hth hy hcast hoky hdy
                  by_cases hyr : dy = (r : Int)
                  · subst hyr
                    have e2 : ((r : Int) == (r : Int)) = true := by simp
                    go_wp2_with (go_at_call 59; refine (sqThrow_any _ _ _ _ _ _ _ _ _ (hj.go hBw) hz.1.1 hz.1.2 hz.2.2.1.1 hz.2.2.1.2 hk0 hks (by omega) (by omega)).mono ?_; rintro e w6 ⟨rfl, hx6⟩; rw [HTH.out]; have d4 := (hrow.below hx6 hgs5).cell hyn; rw [HDY.out] at d4)
                    have hW6 := hW.below hx6 hgw5
                    have hr6 := hrow.below hx6 hgs5
                    have hb6 := box_on hb hx6 (by omega)
                    have hs6 : gw < w6.heap.size := by have := hx6.size; omega
                    have hky : ¬ y = k := fun e => by have h1 := HDY.out; have h2 := HKD.out; have h3 := HRI.out; rw [e] at h1; omega
                    have ck := hW6.cell hlk
                    have cy := hW6.cell hyn
                    rw [if_pos rfl] at ck
                    rw [if_neg hky, ← HRO.out, wV_next HDY.out] at cy
                    have fk := hW6.free k
                    have HVV : Hid (sat (sat (wP S f o js d k r j) + sat (wN S f o js r y)) = sat (wP S f o js d k r (j + 1))) := Lib.hid (by rw [wP_hit HYE.out HDY.out, sat_add (wP_nonneg _ _ _) (wN_nonneg _ _)])
                    obtain ⟨a, hae⟩ : ∃ a, sat (wP S f o js d k r j) = a := ⟨_, rfl⟩
                    obtain ⟨b, hbe⟩ : ∃ b, sat (wN S f o js r y) = b := ⟨_, rfl⟩
                    have ha0 : 0 ≤ a := by rw [← hae]; exact sat_nonneg (wP_nonneg _ _ _)
                    have ha1 : a ≤ 1000000000000001 := by rw [← hae]; exact sat_le _
                    have hb0 : 0 ≤ b := by rw [← hbe]; exact sat_nonneg (wN_nonneg _ _)
                    have hb1 : b ≤ 1000000000000001 := by rw [← hbe]; exact sat_le _
                    have HVV2 : Hid (sat (a + b) = sat (wP S f o js d k r (j + 1))) := Lib.hid (by rw [← hae, ← hbe]; exact HVV.out)
                    rw [hae] at ck
                    rw [hbe] at cy
                    have hwr : IntKind.i64.wrap (a + b) = a + b := IntWalk.i64_in _ (by omega)
                    have hvv : ((1000000000000001 : Int) < a + b ∧ sat (wP S f o js d k r (j + 1)) = 1000000000000001) ∨ (¬ (1000000000000001 : Int) < a + b ∧ sat (wP S f o js d k r (j + 1)) = a + b) := by
                      rw [← HVV2.out]; unfold sat; split <;> omega
                    obtain ⟨v, hv⟩ : ∃ v, sat (wP S f o js d k r (j + 1)) = v := ⟨_, rfl⟩
                    rw [hv] at hvv
                    have HL := Lib.hid hvv
                    have hW7 : RowI (w6.setCell ⟨gw, k, none⟩ (.int .i64 v)) gw 3 n (fun i => if i = k then sat (wP S f o js d k r (j + 1)) else wV S f o js d ρ k i) := (hW6.set hlk v).congr (fun i _ => by
                      by_cases e : i = k
                      · rw [if_pos e, if_pos e, hv]
                      · rw [if_neg e, if_neg e, if_neg e])
                    have hr7 := hr6.far (p := ⟨gw, k, none⟩) (by simp; omega) (.int .i64 v)
                    have hb7 := hb6.setCell (p := ⟨gw, k, none⟩) (by simp; omega) (.int .i64 v)
                    have hs7 : gw < (w6.setCell ⟨gw, k, none⟩ (.int .i64 v)).heap.size := by simpa using hs6
                    clear hW hrow hb hW6 hr6 hb6 hvv hv hae hbe HVV bc
                    go_region_with (first | (go_at_call 86; refine (l1Least_any _ _ v _ HL.out).mono ?_; rintro e w7 ⟨rfl, rfl⟩))
                    all_goals
                      go_wp2
                      go_roundw
                      case rel => exact ⟨j + 1, by omega, by go_num, hb7.drew, hr7.drew, hW7.drew, hs7⟩
                      case measure => simp [intOf]; omega
                  · have e2 : (dy == (r : Int)) = false := beq_eq_false_iff_ne.2 hyr
                    have HM := Lib.hid (wP_miss (s := S) (f := f) (o := o) (js := js) (d := d) (n := r) HYE.out (by rw [HDY.out]; exact hyr))
                    clear hyr
                    go_wp2_with (go_at_call 59; refine (sqThrow_any _ _ _ _ _ _ _ _ _ (hj.go hBw) hz.1.1 hz.1.2 hz.2.2.1.1 hz.2.2.1.2 hk0 hks (by omega) (by omega)).mono ?_; rintro e w6 ⟨rfl, hx6⟩; rw [HTH.out]; have d4 := (hrow.below hx6 hgs5).cell hyn; rw [HDY.out] at d4)
                    go_roundw
                    case rel => exact ⟨j + 1, by omega, by go_num, box_on hb hx6 (by omega), hrow.below hx6 hgs5, (hW.below hx6 hgw5).congr (fun i _ => by rw [HM.out]), by have := hx6.size; omega⟩
                    case measure => simp [intOf]; omega
                · have h5 : ¬ (j : Int) + 1 ≤ f := by omega
                  obtain rfl : j = f.toNat := by omega
                  go_wp2
                  go_roundw
                  case rel =>
                    refine ⟨k + 1, hlk, by go_num, hb, hrow, hW.congr (fun i _ => ?_), hgw5⟩
                    rw [← wV_done HKD.out i, wP_full (asked_good HA.out) HD.out HOK.out HDI.out, HRO.out]
                  case measure => simp [intOf]; omega
            · have e1 : (dk == (r : Int) + 1) = false := beq_eq_false_iff_ne.2 hkr
              have HS := Lib.hid (wV_skip (s := S) (f := f) (o := o) (js := js) (d := d) (r := ρ) (k := k) (by rw [hdk]; have := HRI.out; omega))
              clear hkr hdk
              go_wp2
              go_roundw
              case rel => exact ⟨k + 1, hlk, by go_num, hb, hrow, hW.congr (fun i _ => (HS.out i).symm), hgw5⟩
              case measure => simp [intOf]; omega
          · have h4 : ¬ (k : Int) < (n : Int) := by omega
            obtain rfl : k = n := by omega
            go_wp2
            go_roundw
            case rel => exact ⟨r + 1, by omega, by go_num, hb, hrow, hW.congr (fun i hi => by rw [HRO.out]; exact wV_end hi), hgw5⟩
            case measure => simp [intOf]; omega
      · have h3 : ¬ (r : Int) + 1 ≤ (T : Int) := by omega
        obtain rfl : r = T := by omega
        have d3 := hW.cell hqn
        rw [wW_at HDL.out] at d3
        obtain ⟨v, hv⟩ : ∃ v, sat (wN S f o js r q) = v := ⟨_, rfl⟩
        rw [hv] at d3
        rcases HCNT.out with ⟨hle, rfl⟩ | ⟨hgt, rfl⟩
        · have e : v = wN S f o js r q := by rw [← hv]; unfold sat; rw [if_pos (by omega)]
          have h4 : ¬ v > 1000000000000000 := by omega
          have HE := Lib.hid e
          clear hv e hle hrow hW
          go_wp2
          go_ret2
          rw [HE.out]
          exact ⟨rfl, hBw⟩
        · have h4 : v > 1000000000000000 := by rw [← hv]; unfold sat; split <;> omega
          clear hv hgt hrow hW
          go_wp2
          go_ret2
          exact ⟨rfl, hBw⟩
end Go.Proofs.Ytiekdokgjdgajaa
