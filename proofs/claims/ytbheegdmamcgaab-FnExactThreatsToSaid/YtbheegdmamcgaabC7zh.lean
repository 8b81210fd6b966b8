/-
  Tracks: ThreatsTo on both sides.
-/
import Derived.Test.YtbheegdmamcgaabC7zf
import Derived.Test.YtbheegdmamcgaabC7zg
import Derived.Test.YtbheegdmamcgaabC7o
import Derived.Test.YtbheegdmamcgaabC7n
import Derived.Test.YtbheegdmamcgaabC7p
namespace Go.Proofs.Ytbheegdmamcgaab
open Go.RowKit

theorem cell_one (w : World) (v : Value) (t : TypeId) : ∀ (j : Nat) u, [v][j]? = some u → (w.alloc (.cells #[v] t)).cell? ((⟨w.heap.size, 0, none⟩ : Addr).add j) = some u := by
  intro j u h
  match j, h with
  | 0, h => simp at h; subst h; simp [Addr.add, World.cell?_alloc_at _ _ _ _ rfl]
theorem OI.lower {w : World} {lo lo' : Nat} {t : TypeId} {A : Option Addr} {n : Nat} {f : Nat → Int} (h : OI w lo t A n f) (hl : lo' ≤ lo) : OI w lo' t A n f := h.imp id fun ⟨g, e, h1, h2⟩ => ⟨g, e, Nat.le_trans hl h1, h2⟩

set_option maxRecDepth 100000 in
set_option maxHeartbeats 2000000 in
theorem specThreats_any (q f k : Int) (A1 A2 A3 : Option Addr) (c1 c2 c3 : Nat) (st sf : List Int) (L : List (List Int)) (p : Int) (w : World) (h1 : RI w w.heap.size A1 st) (h2 : RI w w.heap.size A2 sf) (h3 : RG w w.heap.size A3 L) (hc : st.length ≤ c1) (r : Bool) (R : List Int) (hr : plB q f k st sf L p = r) (hR0 : r = false → R = []) (hR1 : r = true → R = thrL (fun t => thrB q f k st sf (stF q L) p.toNat t) k.toNat) :
    Calls Try.prog 22 #[.agg #[.int .i64 q, .int .i64 f, .int .i64 k, .slice A1 st.length c1, .slice A2 sf.length c2], .slice A3 L.length c3, .int .i64 p] w (IntsBack w (R, r)) := by
  have hl := h1.1
  have hl2 := h2.1
  have hl3 := h3.1
  obtain ⟨i0, hi, hz0, hz1, hz2⟩ := info_parts infoInt1
  have HR := Lib.hid hr
  clear hr
  go_enter Try.func22, Try.ntmps22
  go_wp2_with fail
  refine (trPlayer_any q f k A1 A2 A3 c1 c2 c3 st sf L p _ (h1.go (below1 _ _)) (h2.go (below1 _ _)) ((h3.below (below1 _ _)).more (below1 _ _).size) hc).mono ?_
  rintro e w2 ⟨rfl, hx⟩
  rw [HR.out]
  have hb := box_on (Below.refl _ _) hx (by simp)
  have hbw := (below1 w (.cells #[.int .i64 q, .int .i64 f, .int .i64 k, .slice A1 st.length c1, .slice A2 sf.length c2] 44)).trans (hb.mono (by omega))
  have qq := boxcells hb
  clear hx
  cases r
  · obtain rfl := hR0 rfl
    go_wp2
    go_ret2
    exact ⟨none, 0, rfl, .inl rfl, hbw⟩
  have hRR := hR1 rfl
  clear hR0 hR1
  have hTS := state_is (Bool.and_eq_true_iff.1 HR.out).1
  have hT := hTS.1
  have HTT := Lib.hid hT; have HST := Lib.hid hTS.2
  have hk1 := hT.k1
  have hk4 := hT.k4
  have hpb := inB_iff.1 (Bool.and_eq_true_iff.1 HR.out).2
  obtain ⟨P, hP⟩ := Int.eq_ofNat_of_zero_le hpb.1
  subst hP
  have hlt : P < L.length := by have := hTS.2.len; omega
  have hrl := hTS.2.row P hlt
  obtain ⟨b, off, A', c', rfl, hbb, hc0, hrow⟩ := h3.at_ (Below.refl _ w) hlt
  have hcc := (bcell hbw hbb).trans hc0
  have iP : (P : Int) < (L.length : Int) := by omega
  obtain ⟨m, hm⟩ : ∃ m, m = L[P].length := ⟨_, rfl⟩
  rw [← hm] at hcc hrl
  have hm4 : m ≤ 4 := by omega
  have hmk : k.toNat = m := by omega
  rw [Int.toNat_natCast, hmk] at hRR
  obtain ⟨B, hB⟩ : ∃ B : Nat → Bool, B = fun t => thrB q f k st sf (stF q L) P t := ⟨_, rfl⟩
  rw [← hB] at hRR
  have hBt : ∀ t, B t = thrB q f k st sf (stF q L) P t := fun t => by rw [hB]
  have HB := Lib.hid hBt; have HM := Lib.hid hm
  obtain rfl := hRR
  clear hc0 hrow hm hrl hmk hB hBt hT hTS hpb HR
  go_wp2_with fail
  go_loopw [8, 9, 20] (fun v _ i wr => ∃ t : Nat, t ≤ m ∧ i = .int .i64 t ∧ Below (w.heap.size + 1) (w.alloc (.cells #[.int .i64 q, .int .i64 f, .int .i64 k, .slice A1 st.length c1, .slice A2 sf.length c2] 44)) wr ∧ wr.ownsRow (w.heap.size + 1) 3 1 v (thrL B t).length ((thrL B t).map (Value.int .i64))) (fun _ _ i _ => m - (intOf i).toNat)
  case atStart => exact ⟨0, Nat.zero_le _, rfl, hb, World.ownsRow_nil _ _ _ _⟩
  case round =>
    clear hb qq hbw hcc
    obtain ⟨t, ht, rfl, hb, hown⟩ := hrel
    have hbw := (below1 w (.cells #[.int .i64 q, .int .i64 f, .int .i64 k, .slice A1 st.length c1, .slice A2 sf.length c2] 44)).trans (hb.mono (by omega))
    have qq := boxcells hb
    have hsz : w.heap.size + 1 ≤ wr.heap.size := by have := hb.size; simpa using this
    obtain ⟨M, hM⟩ : ∃ M, M = thrL B t := ⟨_, rfl⟩
    have hMl : M.length ≤ 4 := by rw [hM]; exact Nat.le_trans (thrL_len _ _) (by omega)
    rw [← hM] at hown
    by_cases htl : t < m
    · have hcs := thrL_succ B t
      rw [← hM] at hcs
      obtain ⟨r, hr⟩ : ∃ r, B t = r := ⟨_, rfl⟩
      rw [hr] at hcs
      have hr2 := (HB.out t).symm.trans hr
      have HR := Lib.hid hr2; have HCS := Lib.hid hcs
      clear hr hr2 hcs hM
      go_wp2_with fail
      refine (trThreat_any q f k A1 A2 _ c1 c2 c3 st sf L P t _ (h1.go hbw) (h2.go hbw) ((h3.below hbw).more hbw.size) hc HTT.out HST.out hlt (by rw [← HM.out]; exact htl)).mono ?_
      rintro e w5 ⟨rfl, hx5⟩
      rw [HR.out]
      have hb5 := box_on hb hx5 hsz
      have own5 := own_below hown hx5
      have hsz5 := Nat.le_trans hsz hx5.size
      cases r
      · go_wp2_with fail
        go_roundw
        case rel => exact ⟨t + 1, by omega, by go_num, hb5, by rw [HCS.out, if_neg (by simp), List.append_nil]; exact own5⟩
        case measure => simp [intOf]; omega
      · go_wp2_with (at_builtin; go_loud (refine wpList_append_own _ rfl _ _ 25 rfl (w.heap.size + 1) 3 i0 (.int .i64 0) 1 8 Try.underlying25 hi hz0 hz1 hz2 rfl (by decide) _ _ _ rfl (own5.alloc _) ⟨w5.heap.size, 0, none⟩ 1 1 [.int .i64 (t : Int)] rfl rfl (cell_one _ _ _) (one_int _) (by unfold maxLen; omega) (by omega) (by simp; omega) ?_; intro v1 w8 hown8 hg8 _))
        go_roundw
        case rel =>
          refine ⟨t + 1, by omega, by go_num, (hb5.alloc hsz5 _).grown hg8 (by simp; omega) (fun i h => own_from own5 i h), ?_⟩
          have hcs := HCS.out
          simp only [if_true] at hcs
          rw [hcs, List.length_append, List.map_append]
          exact hown8
        case measure => simp [intOf]; omega
    · obtain rfl : t = m := by omega
      obtain ⟨Av, cv, rfl, hO⟩ := own_oi hown rfl
      subst hM
      go_wp2
      go_ret2
      exact ⟨Av, cv, rfl, hO.lower (by omega), hbw⟩

set_option maxRecDepth 100000 in
set_option maxHeartbeats 2000000 in
theorem implThreats_no (q f k : Int) (A1 A2 A3 : Option Addr) (c1 c2 c3 : Nat) (st sf : List Int) (L : List (List Int)) (p : Int) (w : World) (h1 : RI w w.heap.size A1 st) (h2 : RI w w.heap.size A2 sf) (h3 : RG w w.heap.size A3 L) (hc : st.length ≤ c1) (hr : plB q f k st sf L p = false) :
    Calls Try.prog 25 #[.agg #[.int .i64 q, .int .i64 f, .int .i64 k, .slice A1 st.length c1, .slice A2 sf.length c2], .slice A3 L.length c3, .int .i64 p] w (IntsBack w ([], false)) := by
  have hl := h1.1
  have hl2 := h2.1
  have hl3 := h3.1
  cases hz : (trkOk q f k st sf && stateB q k st sf L)
  · have HF := Lib.hid hz
    clear hz hr
    have z0 := zeroRing
    have z1 := zeroStand
    go_enter Try.func25, Try.ntmps25
    go_wp2_with fail
    refine (ringAndStand_fail q f k A1 A2 A3 c1 c2 c3 st sf L _ (h1.go (below1 _ _)) (h2.go (below1 _ _)) ((h3.below (below1 _ _)).more (below1 _ _).size) hc HF.out).mono ?_
    rintro e w2 ⟨RV, V, rfl, hRs, hR1, hx⟩
    have hbx := box_on (Below.refl _ _) hx (by simp)
    clear hx
    go_wp2_with (first | (refine wpList_store_row rfl 81 (.tmp 8) _ rfl w2.heap.size rfl _ _ (RV) rfl ((Below.heap_alloc _ _ _ (by simp)).trans (heap_alloc_at _ _ _ rfl)) ?_ ?_ hR1 ?_; (rw [hRs, ring_size]); (rw [hRs]; exact sizeRing); intro w3 hC3 hg3 hs3; have N3 := (hg3.block (w2.heap.size + 1) (by simp) (by simp)).trans (heap_alloc_at _ _ _ (by simp))) | (refine wpList_store_row rfl 84 (.tmp 9) _ rfl (w2.heap.size + 1) rfl _ _ (standC (V)) rfl N3 ?_ ?_ (stand_one _) ?_; (simp only [stand_size]); (rw [stand_size]; exact sizeStand); intro w4 hC4 hg4 hs4))
    have hsz2 : w.heap.size + 1 ≤ w2.heap.size := by have := hbx.size; simpa using this
    have hbx4 : Below (w.heap.size + 1) (w.alloc (.cells #[.int .i64 q, .int .i64 f, .int .i64 k, .slice A1 st.length c1, .slice A2 sf.length c2] 44)) w4 := (((hbx.alloc hsz2 _).alloc (by simp; omega) _).grown hg3 (by simp; omega) (fun k h => by injection h with h; omega)).grown hg4 (by have := hg3.size; simp at this; omega) (fun k h => by injection h with h; omega)
    have hb4 : Below w.heap.size w w4 := (below1 w _).trans (hbx4.mono (by omega))
    go_ret2
    exact ⟨none, 0, rfl, .inl rfl, hb4⟩
  · rw [plB, hz, Bool.true_and] at hr
    have hz2 := Bool.and_eq_true_iff.1 hz
    have HZ := Lib.hid hz2.1; have HS := Lib.hid hz2.2; have HP := Lib.hid hr
    clear hz hr hz2
    have z0 := zeroRing
    have z1 := zeroStand
    go_enter Try.func25, Try.ntmps25
    go_wp2_with fail
    refine (ringAndStand_in q f k A1 A2 A3 c1 c2 c3 st sf L _ (h1.go (below1 _ _)) (h2.go (below1 _ _)) ((h3.below (below1 _ _)).more (below1 _ _).size) hc HZ.out).mono ?_
    rintro e w2 ⟨V, rfl, hV, hx⟩
    rw [HS.out] at hV ⊢
    obtain rfl := hV rfl
    clear hV
    have hbx := box_on (Below.refl _ _) hx (by simp)
    clear hx
    go_wp2_with (first | (refine wpList_store_row rfl 81 (.tmp 8) _ rfl w2.heap.size rfl _ _ (ringC q f k A1 st.length c1 (safeB sf)) rfl ((Below.heap_alloc _ _ _ (by simp)).trans (heap_alloc_at _ _ _ rfl)) ?_ ?_ ring_one ?_; (simp only [ring_size]); (rw [ring_size]; exact sizeRing); intro w3 hC3 hg3 hs3; have N3 := (hg3.block (w2.heap.size + 1) (by simp) (by simp)).trans (heap_alloc_at _ _ _ (by simp))) | (refine wpList_store_row rfl 84 (.tmp 9) _ rfl (w2.heap.size + 1) rfl _ _ (standC (stF q L)) rfl N3 ?_ ?_ (stand_one _) ?_; (simp only [stand_size]); (rw [stand_size]; exact sizeStand); intro w4 hC4 hg4 hs4) | (go_at_call 63; refine (hasPlayer_any _ _ _ _ _ _ _ _ _ (show RA w4 w2.heap.size 81 q f k A1 st.length c1 (safeB sf) from (hg4.block _ (heap_lt hC3) (by simp)).trans hC3) _ hl).mono ?_; rintro e w' ⟨rfl, rfl⟩; rw [HP.out]))
    have hsz2 : w.heap.size + 1 ≤ w2.heap.size := by have := hbx.size; simpa using this
    have hbx4 : Below (w.heap.size + 1) (w.alloc (.cells #[.int .i64 q, .int .i64 f, .int .i64 k, .slice A1 st.length c1, .slice A2 sf.length c2] 44)) w4 := (((hbx.alloc hsz2 _).alloc (by simp; omega) _).grown hg3 (by simp; omega) (fun k h => by injection h with h; omega)).grown hg4 (by have := hg3.size; simp at this; omega) (fun k h => by injection h with h; omega)
    have hb4 : Below w.heap.size w w4 := (below1 w _).trans (hbx4.mono (by omega))
    have K4 : RA w4 w2.heap.size 81 q f k A1 st.length c1 (safeB sf) := (hg4.block _ (heap_lt hC3) (by simp)).trans hC3
    have E4 : DA w4 (w2.heap.size + 1) 84 (stF q L) := hC4
    go_ret2
    exact ⟨none, 0, rfl, .inl rfl, hb4⟩

set_option maxRecDepth 100000 in
set_option maxHeartbeats 2000000 in
theorem implThreats_yes (q f k : Int) (A1 A2 A3 : Option Addr) (c1 c2 c3 : Nat) (st sf : List Int) (L : List (List Int)) (p : Int) (w : World) (h1 : RI w w.heap.size A1 st) (h2 : RI w w.heap.size A2 sf) (h3 : RG w w.heap.size A3 L) (hc : st.length ≤ c1) (hr : plB q f k st sf L p = true) :
    Calls Try.prog 25 #[.agg #[.int .i64 q, .int .i64 f, .int .i64 k, .slice A1 st.length c1, .slice A2 sf.length c2], .slice A3 L.length c3, .int .i64 p] w (IntsBack w (thrL (fun t => thrB q f k st sf (stF q L) p.toNat t) k.toNat, true)) := by
  have hl := h1.1
  have hl2 := h2.1
  have hl3 := h3.1
  obtain ⟨i0, hi, hz0, hz1, hz2⟩ := info_parts infoInt1
  have hTS := state_is (Bool.and_eq_true_iff.1 hr).1
  have hF := stF_bd hTS.2 (show -1 ≤ q by have := hTS.1.q4; omega)
  obtain ⟨q4, q60, f1, f8, k1, k4, n2, n4, st0, sf0, sfl⟩ := hTS.1
  have hmv := (Bool.and_eq_true_iff.1 hr).2
  have hpb := inB_iff.1 hmv
  obtain ⟨P, hP⟩ := Int.eq_ofNat_of_zero_le hpb.1
  subst hP
  have hPn : P < st.length := by omega
  have HP := Lib.hid hmv
  rw [Int.toNat_natCast]
  have hz := (Bool.and_eq_true_iff.1 hr).1
  rw [Bool.and_eq_true] at hz
  have HZ := Lib.hid hz.1; have HS := Lib.hid hz.2
  obtain ⟨K, hK⟩ : ∃ K : Nat, K = k.toNat := ⟨_, rfl⟩
  have hKk : (K : Int) = k := by omega
  have hK4 : K ≤ 4 := by omega
  rw [← hK]
  obtain ⟨B, hB⟩ : ∃ B : Nat → Bool, B = fun t => thrB q f k st sf (stF q L) P t := ⟨_, rfl⟩
  rw [← hB]
  have hBt : ∀ t, B t = thrB q f k st sf (stF q L) P t := fun t => by rw [hB]
  have HB := Lib.hid hBt; have HF := Lib.hid hF; have HKk := Lib.hid hKk
  clear hTS hr hz hmv hK hpb hB hBt hF hKk
  have z0 := zeroRing
  have z1 := zeroStand
  go_enter Try.func25, Try.ntmps25
  go_wp2_with fail
  refine (ringAndStand_in q f k A1 A2 A3 c1 c2 c3 st sf L _ (h1.go (below1 _ _)) (h2.go (below1 _ _)) ((h3.below (below1 _ _)).more (below1 _ _).size) hc HZ.out).mono ?_
  rintro e w2 ⟨V, rfl, hV, hx⟩
  rw [HS.out] at hV ⊢
  obtain rfl := hV rfl
  clear hV
  have hbx := box_on (Below.refl _ _) hx (by simp)
  clear hx
  go_wp2_with (first | (refine wpList_store_row rfl 81 (.tmp 8) _ rfl w2.heap.size rfl _ _ (ringC q f k A1 st.length c1 (safeB sf)) rfl ((Below.heap_alloc _ _ _ (by simp)).trans (heap_alloc_at _ _ _ rfl)) ?_ ?_ ring_one ?_; (simp only [ring_size]); (rw [ring_size]; exact sizeRing); intro w3 hC3 hg3 hs3; have N3 := (hg3.block (w2.heap.size + 1) (by simp) (by simp)).trans (heap_alloc_at _ _ _ (by simp))) | (refine wpList_store_row rfl 84 (.tmp 9) _ rfl (w2.heap.size + 1) rfl _ _ (standC (stF q L)) rfl N3 ?_ ?_ (stand_one _) ?_; (simp only [stand_size]); (rw [stand_size]; exact sizeStand); intro w4 hC4 hg4 hs4) | (go_at_call 63; refine (hasPlayer_any _ _ _ _ _ _ _ _ _ (show RA w4 w2.heap.size 81 q f k A1 st.length c1 (safeB sf) from (hg4.block _ (heap_lt hC3) (by simp)).trans hC3) _ hl).mono ?_; rintro e w' ⟨rfl, rfl⟩; rw [HP.out]; have c2q := (show RA w4 w2.heap.size 81 q f k A1 st.length c1 (safeB sf) from (hg4.block _ (heap_lt hC3) (by simp)).trans hC3).c2))
  have hsz2 : w.heap.size + 1 ≤ w2.heap.size := by have := hbx.size; simpa using this
  have hbx4 : Below (w.heap.size + 1) (w.alloc (.cells #[.int .i64 q, .int .i64 f, .int .i64 k, .slice A1 st.length c1, .slice A2 sf.length c2] 44)) w4 := (((hbx.alloc hsz2 _).alloc (by simp; omega) _).grown hg3 (by simp; omega) (fun k h => by injection h with h; omega)).grown hg4 (by have := hg3.size; simp at this; omega) (fun k h => by injection h with h; omega)
  have hb4 : Below w.heap.size w w4 := (below1 w _).trans (hbx4.mono (by omega))
  have K4 : RA w4 w2.heap.size 81 q f k A1 st.length c1 (safeB sf) := (hg4.block _ (heap_lt hC3) (by simp)).trans hC3
  have E4 : DA w4 (w2.heap.size + 1) 84 (stF q L) := hC4
  have hB : Below w4.heap.size w4 w4 := Below.refl _ _
  clear hbx hbx4 hC3 hC4 hg3 hg4 N3 hs3 hs4
  go_loopw [11, 12, 29] (fun v _ i wr => ∃ t : Nat, t ≤ K ∧ i = .int .i64 t ∧ Below w4.heap.size w4 wr ∧ wr.ownsRow w4.heap.size 3 1 v (thrL B t).length ((thrL B t).map (Value.int .i64))) (fun _ _ i _ => K - (intOf i).toNat)
  case atStart => exact ⟨0, Nat.zero_le _, rfl, hB, World.ownsRow_nil _ _ _ _⟩
  case round =>
    clear hB
    obtain ⟨t, ht, rfl, hB, hown⟩ := hrel
    have hbw := hb4.trans (hB.mono hb4.size)
    have hsz := hB.size
    obtain ⟨M, hM⟩ : ∃ M, M = thrL B t := ⟨_, rfl⟩
    have hMl : M.length ≤ 4 := by rw [hM]; exact Nat.le_trans (thrL_len _ _) (by omega)
    rw [← hM] at hown
    by_cases htl : t < K
    · have Kr := K4.below hB K4.lt
      have Er := E4.below hB E4.lt
      have hcs := thrL_succ B t
      rw [← hM] at hcs
      obtain ⟨r, hr⟩ : ∃ r, B t = r := ⟨_, rfl⟩
      rw [hr] at hcs
      have hr2 := (HB.out t).symm.trans hr
      have htk : (t : Int) < k := by have := HKk.out; omega
      have HR := Lib.hid hr2; have HCS := Lib.hid hcs
      clear hr hr2 hcs hM
      go_wp2_with (first | (refine wpList_load_row rfl 84 (.tmp 9) rfl (w2.heap.size + 1) rfl _ _ _ _ Er Try.underlying84 rfl ?_ ?_; (rw [stand_size]; exact sizeStand)))
      refine (isThreatened_any _ q f k A1 c1 st sf _ Kr (h1.go hbw) (stF q L) P t q4 q60 f1 f8 k1 k4 n4 st0 hPn (by omega) (fun o t _ _ => HF.out o t)).mono ?_
      rintro e w6 ⟨rfl, hx6⟩
      rw [HR.out]
      have hB6 := hB.trans (hx6.mono hsz)
      have own6 := own_below hown hx6
      have hsz6 := hB6.size
      cases r
      · go_wp2_with fail
        go_roundw
        case rel => exact ⟨t + 1, by omega, by go_num, hB6, by rw [HCS.out, if_neg (by simp), List.append_nil]; exact own6⟩
        case measure => simp [intOf]; omega
      · go_wp2_with (at_builtin; go_loud (refine wpList_append_own _ rfl _ _ 25 rfl w4.heap.size 3 i0 (.int .i64 0) 1 8 Try.underlying25 hi hz0 hz1 hz2 rfl (by decide) _ _ _ rfl (own6.alloc _) ⟨w6.heap.size, 0, none⟩ 1 1 [.int .i64 (t : Int)] rfl rfl (cell_one _ _ _) (one_int _) (by unfold maxLen; omega) (by omega) (by simp; omega) ?_; intro v1 w8 hown8 hg8 _))
        go_roundw
        case rel =>
          refine ⟨t + 1, by omega, by go_num, (hB6.alloc hsz6 _).grown hg8 (by simp; omega) (fun i h => own_from own6 i h), ?_⟩
          have hcs := HCS.out
          simp only [if_true] at hcs
          rw [hcs, List.length_append, List.map_append]
          exact hown8
        case measure => simp [intOf]; omega
    · obtain rfl : t = K := by omega
      have hKe := HKk.out
      obtain ⟨Av, cv, rfl, hO⟩ := own_oi hown rfl
      subst hM
      clear hKe
      have htn : ¬ (t : Int) < k := by have := HKk.out; omega
      go_wp2
      go_ret2
      exact ⟨Av, cv, rfl, hO.lower hb4.size, hbw⟩

theorem threatsTo_both (q f k : Int) (st sf : List Int) (L : List (List Int)) (p : Int) : ∃ R : List Int × Bool, R.1.length ≤ 1048576 ∧
    (∀ (A1 A2 : Option Addr) (c1 c2 : Nat) (A3 : Option Addr) (c3 : Nat) (w : World), RI w w.heap.size A1 st → RI w w.heap.size A2 sf → st.length ≤ c1 → RG w w.heap.size A3 L → Calls Try.prog 22 #[.agg #[.int .i64 q, .int .i64 f, .int .i64 k, .slice A1 st.length c1, .slice A2 sf.length c2], .slice A3 L.length c3, .int .i64 p] w (IntsBack w R)) ∧
    (∀ (A1 A2 : Option Addr) (c1 c2 : Nat) (A3 : Option Addr) (c3 : Nat) (w : World), RI w w.heap.size A1 st → RI w w.heap.size A2 sf → st.length ≤ c1 → RG w w.heap.size A3 L → Calls Try.prog 25 #[.agg #[.int .i64 q, .int .i64 f, .int .i64 k, .slice A1 st.length c1, .slice A2 sf.length c2], .slice A3 L.length c3, .int .i64 p] w (IntsBack w R)) := by
  cases h : plB q f k st sf L p
  · exact ⟨([], false), by simp, fun A1 A2 c1 c2 A3 c3 w a b c d => specThreats_any q f k A1 A2 A3 c1 c2 c3 st sf L p w a b d c _ _ h (fun _ => rfl) (fun e => by cases e), fun A1 A2 c1 c2 A3 c3 w a b c d => implThreats_no q f k A1 A2 A3 c1 c2 c3 st sf L p w a b d c h⟩
  · refine ⟨(thrL (fun t => thrB q f k st sf (stF q L) p.toNat t) k.toNat, true), ?_, fun A1 A2 c1 c2 A3 c3 w a b c d => specThreats_any q f k A1 A2 A3 c1 c2 c3 st sf L p w a b d c _ _ h (fun e => by cases e) (fun _ => rfl), fun A1 A2 c1 c2 A3 c3 w a b c d => implThreats_yes q f k A1 A2 A3 c1 c2 c3 st sf L p w a b d c h⟩
    have := (state_is (Bool.and_eq_true_iff.1 h).1).1.k4
    exact Nat.le_trans (thrL_len _ _) (by omega)
end Go.Proofs.Ytbheegdmamcgaab
