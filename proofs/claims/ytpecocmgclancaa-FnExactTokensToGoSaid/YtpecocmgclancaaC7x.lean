/-
  Tracks: TokensToGo on both sides.
-/
import Derived.Test.YtpecocmgclancaaC7v
import Derived.Test.YtpecocmgclancaaC7p
import Derived.ChangeKeysEq
import Derived.Deep.RegionHeld3
namespace Go.Proofs.Ytpecocmgclancaa
open Go.RowKit

/-- The tokens below n that can go by x. -/
def canL (q f : Int) (G : Nat → Int) (x : Int) : Nat → List Int
  | 0 => []
  | n + 1 => canL q f G x n ++ (if canB q f (G n) x = true then [(n : Int)] else [])
theorem canL_succ (q f : Int) (G : Nat → Int) (x : Int) (n : Nat) : canL q f G x (n + 1) = canL q f G x n ++ (if canB q f (G n) x = true then [(n : Int)] else []) := rfl
theorem canL_len (q f : Int) (G : Nat → Int) (x : Int) : ∀ n, (canL q f G x n).length ≤ n
  | 0 => Nat.le_refl _
  | n + 1 => by
    have := canL_len q f G x n
    rw [canL_succ, List.length_append]
    split <;> simp <;> omega
theorem OI.low {w : World} {lo lo' : Nat} {t : TypeId} {A : Option Addr} {n : Nat} {f : Nat → Int} (h : OI w lo t A n f) (hl : lo' ≤ lo) : OI w lo' t A n f := h.imp id fun ⟨g, e, h1, h2⟩ => ⟨g, e, Nat.le_trans hl h1, h2⟩

set_option maxHeartbeats 1000000 in
theorem specTTG_any (q f k : Int) (A1 A2 A3 : Option Addr) (c1 c2 c3 : Nat) (st sf : List Int) (L : List (List Int)) (p x : Int) (w : World) (h1 : RI w w.heap.size A1 st) (h2 : RI w w.heap.size A2 sf) (h3 : RG w w.heap.size A3 L) (hc : st.length ≤ c1) (r : Bool) (R : List Int) (hr : askB q f k st sf L p 0 x = r) (hR0 : r = false → R = []) (hR1 : r = true → R = canL q f (stF q L p.toNat) x k.toNat) :
    Calls Try.prog 36 #[.agg #[.int .i64 q, .int .i64 f, .int .i64 k, .slice A1 st.length c1, .slice A2 sf.length c2], .slice A3 L.length c3, .int .i64 p, .int .i64 x] w (IntsBack w (R, r)) := by
  have hl := h1.1
  have hl2 := h2.1
  have hl3 := h3.1
  obtain ⟨i0, hi, hz0, hz1, hz2⟩ := info_parts infoInt1
  have HR := Lib.hid hr
  clear hr
  go_enter Try.func36, Try.ntmps36
  go_wp2_with fail
  refine (trAsked_any q f k A1 A2 A3 c1 c2 c3 st sf L p 0 x _ (h1.go (below1 _ _)) (h2.go (below1 _ _)) ((h3.below (below1 _ _)).more (below1 _ _).size) hc).mono ?_
  rintro e w2 ⟨rfl, hx⟩
  rw [HR.out]
  have hb := box_on (Below.refl _ _) hx (by simp)
  have hbw := (below1 w (.cells #[.int .i64 q, .int .i64 f, .int .i64 k, .slice A1 st.length c1, .slice A2 sf.length c2] 27)).trans (hb.mono (by omega))
  have qq := boxcells hb
  clear hx
  cases r
  · obtain rfl := hR0 rfl
    go_wp2
    go_ret2
    exact ⟨none, 0, rfl, .inl rfl, hbw⟩
  have hRR := hR1 rfl
  clear hR0 hR1
  have hTS := state_is (Bool.and_eq_true_iff.1 HR.out).1
  obtain ⟨q4, q60, f1, f8, k1, k4, n2, n4, st0, sf0, sfl⟩ := hTS.1
  have hSt := hTS.2
  have hmv := (Bool.and_eq_true_iff.1 HR.out).2
  rw [mvB, Bool.and_eq_true, Bool.and_eq_true, inB_iff, inB_iff, inB_iff] at hmv
  obtain ⟨⟨hpb, -⟩, hxb⟩ := hmv
  obtain ⟨P, hP⟩ := Int.eq_ofNat_of_zero_le hpb.1
  subst hP
  have hlt : P < L.length := by have := hSt.len; omega
  have hrl := hSt.row P hlt
  have hrv := hSt.val P hlt
  have hG : ∀ t (h : t < L[P].length), stF q L P t = L[P][t] := fun t h => stF_at hlt h
  have hkn : k.toNat = L[P].length := by omega
  rw [Int.toNat_natCast, hkn] at hRR
  obtain ⟨b, off, A', c', rfl, hbb, hc0, hrow⟩ := h3.at_ (Below.refl _ w) hlt
  have hcc := (bcell hbw hbb).trans hc0
  obtain ⟨G, hGe⟩ : ∃ G, G = stF q L P := ⟨_, rfl⟩
  rw [← hGe] at hRR hG
  obtain ⟨xs, hxs⟩ : ∃ xs, xs = L[P] := ⟨_, rfl⟩
  have hG' : ∀ t (h : t < xs.length), G t = xs[t] := fun t h => by subst hxs; exact hG t h
  have hrv' : ∀ t (h : t < xs.length), -1 ≤ xs[t] ∧ xs[t] ≤ q := fun t h => by subst hxs; exact hrv t h
  rw [← hxs] at hrow hcc hRR hrl
  have hxl : xs.length ≤ 4 := by omega
  have HG := Lib.hid hG'
  obtain rfl := hRR
  clear hc0 hxs hrl hG hG' hrv hGe hSt hTS HR hkn
  go_wp2_with fail
  go_loopw [10, 24] (fun v i wr => ∃ t : Nat, t ≤ xs.length ∧ i = .int .i64 t ∧ Below (w.heap.size + 1) (w.alloc (.cells #[.int .i64 q, .int .i64 f, .int .i64 k, .slice A1 st.length c1, .slice A2 sf.length c2] 27)) wr ∧ wr.ownsRow (w.heap.size + 1) 3 1 v (canL q f G x t).length ((canL q f G x t).map (Value.int .i64))) (fun _ i _ => xs.length - (intOf i).toNat)
  case atStart => exact ⟨0, Nat.zero_le _, rfl, hb, World.ownsRow_nil _ _ _ _⟩
  case round =>
    clear hb qq hbw hcc
    obtain ⟨t, ht, rfl, hb, hown⟩ := hrel
    have hbw := (below1 w (.cells #[.int .i64 q, .int .i64 f, .int .i64 k, .slice A1 st.length c1, .slice A2 sf.length c2] 27)).trans (hb.mono (by omega))
    have qq := boxcells hb
    have hsz : w.heap.size + 1 ≤ wr.heap.size := by have := hb.size; simpa using this
    obtain ⟨M, hM⟩ : ∃ M, M = canL q f G x t := ⟨_, rfl⟩
    have hMl : M.length ≤ 4 := by rw [hM]; exact Nat.le_trans (canL_len _ _ _ _ _) (by omega)
    rw [← hM] at hown
    by_cases htl : t < xs.length
    · obtain ⟨b2, off2, rfl, hb2, h5⟩ := hrow.at_ hbw htl
      have hx := hrv' t htl
      have hcs := canL_succ q f G x t
      rw [HG.out t htl, ← hM] at hcs
      obtain ⟨y, hy⟩ : ∃ y, y = xs[t] := ⟨_, rfl⟩
      rw [← hy] at h5 hx hcs
      clear hy hM
      obtain ⟨r, hr⟩ : ∃ r, canB q f y x = r := ⟨_, rfl⟩
      rw [hr] at hcs
      have HR := Lib.hid hr; have HCS := Lib.hid hcs
      clear hr hcs
      go_wp2_with fail
      refine (trCan_any q f k A1 A2 st.length c1 sf.length c2 y x _ hx.2 q60 hxb.1 (by omega)).mono ?_
      rintro e w5 ⟨rfl, hx5⟩
      rw [HR.out]
      have hb5 := box_on hb hx5 hsz
      have own5 := own_below hown hx5
      have hsz5 := Nat.le_trans hsz hx5.size
      cases r
      · go_wp2_with fail
        go_roundw
        case rel => exact ⟨t + 1, by omega, by go_num, hb5, by rw [HCS.out, if_neg (by simp), List.append_nil]; exact own5⟩
        case measure => simp [intOf]; omega
      · go_wp2_with (at_builtin; go_loud (refine wpList_append_own _ rfl _ _ 22 rfl (w.heap.size + 1) 3 i0 (.int .i64 0) 1 8 Try.underlying22 hi hz0 hz1 hz2 rfl (by decide) _ _ _ rfl (own5.alloc _) ⟨w5.heap.size, 0, none⟩ 1 1 [.int .i64 (t : Int)] rfl rfl (cell_new1' _ _ _) (one_int _) (by unfold maxLen; omega) (by omega) (by simp; omega) ?_; intro v1 w8 hown8 hg8 _))
        go_roundw
        case rel =>
          refine ⟨t + 1, by omega, by go_num, (hb5.alloc hsz5 _).grown hg8 (by simp; omega) (fun i h => own_from own5 i h), ?_⟩
          have hcs := HCS.out
          simp only [if_true] at hcs
          rw [hcs, List.length_append, List.map_append]
          exact hown8
        case measure => simp [intOf]; omega
    · obtain rfl : t = xs.length := by omega
      obtain ⟨Av, cv, rfl, hO⟩ := own_oi hown rfl
      subst hM
      go_wp2
      go_ret2
      exact ⟨Av, cv, rfl, hO.low (by omega), hbw⟩

set_option maxRecDepth 100000 in
set_option maxHeartbeats 2000000 in
theorem implTTG_no (q f k : Int) (A1 A2 A3 : Option Addr) (c1 c2 c3 : Nat) (st sf : List Int) (L : List (List Int)) (p x : Int) (w : World) (h1 : RI w w.heap.size A1 st) (h2 : RI w w.heap.size A2 sf) (h3 : RG w w.heap.size A3 L) (hc : st.length ≤ c1) (hr : askB q f k st sf L p 0 x = false) :
    Calls Try.prog 37 #[.agg #[.int .i64 q, .int .i64 f, .int .i64 k, .slice A1 st.length c1, .slice A2 sf.length c2], .slice A3 L.length c3, .int .i64 p, .int .i64 x] w (IntsBack w ([], false)) := by
  have hl := h1.1
  have hl2 := h2.1
  have hl3 := h3.1
  cases hz : (trkOk q f k st sf && stateB q k st sf L)
  · have HF := Lib.hid hz
    clear hz hr
    have z0 := zeroRing
    have z1 := zeroStand
    go_enter Try.func37, Try.ntmps37
    go_wp2_with fail
    refine (ringAndStand_fail q f k A1 A2 A3 c1 c2 c3 st sf L _ (h1.go (below1 _ _)) (h2.go (below1 _ _)) ((h3.below (below1 _ _)).more (below1 _ _).size) hc HF.out).mono ?_
    rintro e w2 ⟨RV, V, rfl, hRs, hR1, hx⟩
    have hbx := box_on (Below.refl _ _) hx (by simp)
    clear hx
    go_wp2_with (first | (refine wpList_store_row rfl 62 (.tmp 10) _ rfl w2.heap.size rfl _ _ (RV) rfl ((Below.heap_alloc _ _ _ (by simp)).trans (heap_alloc_at _ _ _ rfl)) ?_ ?_ hR1 ?_; (rw [hRs, ring_size]); (rw [hRs]; exact sizeRing); intro w3 hC3 hg3 hs3; have N3 := (hg3.block (w2.heap.size + 1) (by simp) (by simp)).trans (heap_alloc_at _ _ _ (by simp))) | (refine wpList_store_row rfl 68 (.tmp 11) _ rfl (w2.heap.size + 1) rfl _ _ (standC (V)) rfl N3 ?_ ?_ (stand_one _) ?_; (simp only [stand_size]); (rw [stand_size]; exact sizeStand); intro w4 hC4 hg4 hs4))
    have hsz2 : w.heap.size + 1 ≤ w2.heap.size := by have := hbx.size; simpa using this
    have hbx4 : Below (w.heap.size + 1) (w.alloc (.cells #[.int .i64 q, .int .i64 f, .int .i64 k, .slice A1 st.length c1, .slice A2 sf.length c2] 27)) w4 := (((hbx.alloc hsz2 _).alloc (by simp; omega) _).grown hg3 (by simp; omega) (fun k h => by injection h with h; omega)).grown hg4 (by have := hg3.size; simp at this; omega) (fun k h => by injection h with h; omega)
    have hb4 : Below w.heap.size w w4 := (below1 w _).trans (hbx4.mono (by omega))
    go_ret2
    exact ⟨none, 0, rfl, .inl rfl, hb4⟩
  have hTS := state_is hz
  have k1 := hTS.1.k1
  have h0 : inB 0 0 (k - 1) = true := inB_iff.2 ⟨by omega, by omega⟩
  rw [askB, hz, Bool.true_and, mvB, h0, Bool.and_true] at hr
  rw [Bool.and_eq_true] at hz
  have HZ := Lib.hid hz.1; have HS := Lib.hid hz.2
  clear hz hTS h0
  cases hp : inB p 0 ((st.length : Int) - 1)
  · have HP := Lib.hid hp
    clear hp hr
    have z0 := zeroRing
    have z1 := zeroStand
    go_enter Try.func37, Try.ntmps37
    go_wp2_with fail
    refine (ringAndStand_in q f k A1 A2 A3 c1 c2 c3 st sf L _ (h1.go (below1 _ _)) (h2.go (below1 _ _)) ((h3.below (below1 _ _)).more (below1 _ _).size) hc HZ.out).mono ?_
    rintro e w2 ⟨V, rfl, hV, hx⟩
    rw [HS.out] at hV ⊢
    obtain rfl := hV rfl
    clear hV
    have hbx := box_on (Below.refl _ _) hx (by simp)
    clear hx
    go_wp2_with (first | (refine wpList_store_row rfl 62 (.tmp 10) _ rfl w2.heap.size rfl _ _ (ringC q f k A1 st.length c1 (safeB sf)) rfl ((Below.heap_alloc _ _ _ (by simp)).trans (heap_alloc_at _ _ _ rfl)) ?_ ?_ ring_one ?_; (simp only [ring_size]); (rw [ring_size]; exact sizeRing); intro w3 hC3 hg3 hs3; have N3 := (hg3.block (w2.heap.size + 1) (by simp) (by simp)).trans (heap_alloc_at _ _ _ (by simp))) | (refine wpList_store_row rfl 68 (.tmp 11) _ rfl (w2.heap.size + 1) rfl _ _ (standC (stF q L)) rfl N3 ?_ ?_ (stand_one _) ?_; (simp only [stand_size]); (rw [stand_size]; exact sizeStand); intro w4 hC4 hg4 hs4) | (go_at_call 59; refine (hasPlayer_any _ _ _ _ _ _ _ _ _ (show RA w4 w2.heap.size 62 q f k A1 st.length c1 (safeB sf) from (hg4.block _ (heap_lt hC3) (by simp)).trans hC3) _ hl).mono ?_; rintro e w' ⟨rfl, rfl⟩; rw [HP.out]))
    have hsz2 : w.heap.size + 1 ≤ w2.heap.size := by have := hbx.size; simpa using this
    have hbx4 : Below (w.heap.size + 1) (w.alloc (.cells #[.int .i64 q, .int .i64 f, .int .i64 k, .slice A1 st.length c1, .slice A2 sf.length c2] 27)) w4 := (((hbx.alloc hsz2 _).alloc (by simp; omega) _).grown hg3 (by simp; omega) (fun k h => by injection h with h; omega)).grown hg4 (by have := hg3.size; simp at this; omega) (fun k h => by injection h with h; omega)
    have hb4 : Below w.heap.size w w4 := (below1 w _).trans (hbx4.mono (by omega))
    have K4 : RA w4 w2.heap.size 62 q f k A1 st.length c1 (safeB sf) := (hg4.block _ (heap_lt hC3) (by simp)).trans hC3
    have E4 : DA w4 (w2.heap.size + 1) 68 (stF q L) := hC4
    go_ret2
    exact ⟨none, 0, rfl, .inl rfl, hb4⟩
  · have hx0 : inB x 1 f = false := by rw [hp, Bool.true_and] at hr; exact hr
    have HP := Lib.hid hp; have HX := Lib.hid hx0
    clear hp hr hx0
    have z0 := zeroRing
    have z1 := zeroStand
    go_enter Try.func37, Try.ntmps37
    go_wp2_with fail
    refine (ringAndStand_in q f k A1 A2 A3 c1 c2 c3 st sf L _ (h1.go (below1 _ _)) (h2.go (below1 _ _)) ((h3.below (below1 _ _)).more (below1 _ _).size) hc HZ.out).mono ?_
    rintro e w2 ⟨V, rfl, hV, hx⟩
    rw [HS.out] at hV ⊢
    obtain rfl := hV rfl
    clear hV
    have hbx := box_on (Below.refl _ _) hx (by simp)
    clear hx
    go_wp2_with (first | (refine wpList_store_row rfl 62 (.tmp 10) _ rfl w2.heap.size rfl _ _ (ringC q f k A1 st.length c1 (safeB sf)) rfl ((Below.heap_alloc _ _ _ (by simp)).trans (heap_alloc_at _ _ _ rfl)) ?_ ?_ ring_one ?_; (simp only [ring_size]); (rw [ring_size]; exact sizeRing); intro w3 hC3 hg3 hs3; have N3 := (hg3.block (w2.heap.size + 1) (by simp) (by simp)).trans (heap_alloc_at _ _ _ (by simp))) | (refine wpList_store_row rfl 68 (.tmp 11) _ rfl (w2.heap.size + 1) rfl _ _ (standC (stF q L)) rfl N3 ?_ ?_ (stand_one _) ?_; (simp only [stand_size]); (rw [stand_size]; exact sizeStand); intro w4 hC4 hg4 hs4) | (go_at_call 59; refine (hasPlayer_any _ _ _ _ _ _ _ _ _ (show RA w4 w2.heap.size 62 q f k A1 st.length c1 (safeB sf) from (hg4.block _ (heap_lt hC3) (by simp)).trans hC3) _ hl).mono ?_; rintro e w' ⟨rfl, rfl⟩; rw [HP.out]) | (go_at_call 70; refine (hasFace_any _ _ _ _ _ _ _ _ _ (show RA w4 w2.heap.size 62 q f k A1 st.length c1 (safeB sf) from (hg4.block _ (heap_lt hC3) (by simp)).trans hC3) _).mono ?_; rintro e w' ⟨rfl, rfl⟩; rw [HX.out]))
    have hsz2 : w.heap.size + 1 ≤ w2.heap.size := by have := hbx.size; simpa using this
    have hbx4 : Below (w.heap.size + 1) (w.alloc (.cells #[.int .i64 q, .int .i64 f, .int .i64 k, .slice A1 st.length c1, .slice A2 sf.length c2] 27)) w4 := (((hbx.alloc hsz2 _).alloc (by simp; omega) _).grown hg3 (by simp; omega) (fun k h => by injection h with h; omega)).grown hg4 (by have := hg3.size; simp at this; omega) (fun k h => by injection h with h; omega)
    have hb4 : Below w.heap.size w w4 := (below1 w _).trans (hbx4.mono (by omega))
    have K4 : RA w4 w2.heap.size 62 q f k A1 st.length c1 (safeB sf) := (hg4.block _ (heap_lt hC3) (by simp)).trans hC3
    have E4 : DA w4 (w2.heap.size + 1) 68 (stF q L) := hC4
    go_ret2
    exact ⟨none, 0, rfl, .inl rfl, hb4⟩

set_option maxRecDepth 100000 in
set_option maxHeartbeats 2000000 in
theorem implTTG_yes (q f k : Int) (A1 A2 A3 : Option Addr) (c1 c2 c3 : Nat) (st sf : List Int) (L : List (List Int)) (p x : Int) (w : World) (h1 : RI w w.heap.size A1 st) (h2 : RI w w.heap.size A2 sf) (h3 : RG w w.heap.size A3 L) (hc : st.length ≤ c1) (hr : askB q f k st sf L p 0 x = true) :
    Calls Try.prog 37 #[.agg #[.int .i64 q, .int .i64 f, .int .i64 k, .slice A1 st.length c1, .slice A2 sf.length c2], .slice A3 L.length c3, .int .i64 p, .int .i64 x] w (IntsBack w (canL q f (stF q L p.toNat) x k.toNat, true)) := by
  have hl := h1.1
  have hl2 := h2.1
  have hl3 := h3.1
  obtain ⟨i0, hi, hz0, hz1, hz2⟩ := info_parts infoInt1
  have hTS := state_is (Bool.and_eq_true_iff.1 hr).1
  obtain ⟨q4, q60, f1, f8, k1, k4, n2, n4, st0, sf0, sfl⟩ := hTS.1
  have hSt := hTS.2
  have hmv := (Bool.and_eq_true_iff.1 hr).2
  rw [mvB, Bool.and_eq_true, Bool.and_eq_true, inB_iff, inB_iff, inB_iff] at hmv
  obtain ⟨⟨hpb, -⟩, hxb⟩ := hmv
  obtain ⟨P, hP⟩ := Int.eq_ofNat_of_zero_le hpb.1
  subst hP
  have hlt : P < L.length := by have := hSt.len; omega
  have hrl := hSt.row P hlt
  have hrv := hSt.val P hlt
  have hG : ∀ t (h : t < L[P].length), stF q L P t = L[P][t] := fun t h => stF_at hlt h
  have hmv := (Bool.and_eq_true_iff.1 hr).2
  rw [mvB, Bool.and_eq_true, Bool.and_eq_true] at hmv
  have HP := Lib.hid hmv.1.1; have HX := Lib.hid hmv.2
  rw [Int.toNat_natCast]
  have hz := (Bool.and_eq_true_iff.1 hr).1
  rw [Bool.and_eq_true] at hz
  have HZ := Lib.hid hz.1; have HS := Lib.hid hz.2
  have hPn : P < st.length := by omega
  obtain ⟨K, hK⟩ : ∃ K : Nat, K = k.toNat := ⟨_, rfl⟩
  have hKk : (K : Int) = k := by omega
  rw [← hK]
  have hbd : ∀ t, t < K → -1 ≤ stF q L P t ∧ stF q L P t ≤ q := fun t h => by rw [hG t (by omega)]; exact hrv t (by omega)
  clear hrl hrv hG hSt hTS hr hz hmv hlt hK
  have z0 := zeroRing
  have z1 := zeroStand
  go_enter Try.func37, Try.ntmps37
  go_wp2_with fail
  refine (ringAndStand_in q f k A1 A2 A3 c1 c2 c3 st sf L _ (h1.go (below1 _ _)) (h2.go (below1 _ _)) ((h3.below (below1 _ _)).more (below1 _ _).size) hc HZ.out).mono ?_
  rintro e w2 ⟨V, rfl, hV, hx⟩
  rw [HS.out] at hV ⊢
  obtain rfl := hV rfl
  clear hV
  have hbx := box_on (Below.refl _ _) hx (by simp)
  clear hx
  go_wp2_with (first | (refine wpList_store_row rfl 62 (.tmp 10) _ rfl w2.heap.size rfl _ _ (ringC q f k A1 st.length c1 (safeB sf)) rfl ((Below.heap_alloc _ _ _ (by simp)).trans (heap_alloc_at _ _ _ rfl)) ?_ ?_ ring_one ?_; (simp only [ring_size]); (rw [ring_size]; exact sizeRing); intro w3 hC3 hg3 hs3; have N3 := (hg3.block (w2.heap.size + 1) (by simp) (by simp)).trans (heap_alloc_at _ _ _ (by simp))) | (refine wpList_store_row rfl 68 (.tmp 11) _ rfl (w2.heap.size + 1) rfl _ _ (standC (stF q L)) rfl N3 ?_ ?_ (stand_one _) ?_; (simp only [stand_size]); (rw [stand_size]; exact sizeStand); intro w4 hC4 hg4 hs4) | (go_at_call 59; refine (hasPlayer_any _ _ _ _ _ _ _ _ _ (show RA w4 w2.heap.size 62 q f k A1 st.length c1 (safeB sf) from (hg4.block _ (heap_lt hC3) (by simp)).trans hC3) _ hl).mono ?_; rintro e w' ⟨rfl, rfl⟩; rw [HP.out]))
  have hsz2 : w.heap.size + 1 ≤ w2.heap.size := by have := hbx.size; simpa using this
  have hbx4 : Below (w.heap.size + 1) (w.alloc (.cells #[.int .i64 q, .int .i64 f, .int .i64 k, .slice A1 st.length c1, .slice A2 sf.length c2] 27)) w4 := (((hbx.alloc hsz2 _).alloc (by simp; omega) _).grown hg3 (by simp; omega) (fun k h => by injection h with h; omega)).grown hg4 (by have := hg3.size; simp at this; omega) (fun k h => by injection h with h; omega)
  have hb4 : Below w.heap.size w w4 := (below1 w _).trans (hbx4.mono (by omega))
  have K4 : RA w4 w2.heap.size 62 q f k A1 st.length c1 (safeB sf) := (hg4.block _ (heap_lt hC3) (by simp)).trans hC3
  have E4 : DA w4 (w2.heap.size + 1) 68 (stF q L) := hC4
  have c2' := K4.c2
  have hB : Below w4.heap.size w4 w4 := Below.refl _ _
  refine (hasFace_any _ _ _ _ _ _ _ _ _ K4 _).mono ?_
  rintro e w' ⟨rfl, rfl⟩
  rw [HX.out]
  clear hbx hbx4 hC3 hC4 hg3 hg4 N3 hs3 hs4
  go_wp2_with fail
  go_loopw [13, 39] (fun v i wr => ∃ t : Nat, t ≤ K ∧ i = .int .i64 t ∧ Below w4.heap.size w4 wr ∧ wr.ownsRow w4.heap.size 3 1 v (canL q f (stF q L P) x t).length ((canL q f (stF q L P) x t).map (Value.int .i64))) (fun _ i _ => K - (intOf i).toNat)
  case atStart => exact ⟨0, Nat.zero_le _, rfl, hB, World.ownsRow_nil _ _ _ _⟩
  case round =>
    clear hB
    obtain ⟨t, ht, rfl, hB, hown⟩ := hrel
    have hbw := hb4.trans (hB.mono hb4.size)
    have hsz := hB.size
    obtain ⟨M, hM⟩ : ∃ M, M = canL q f (stF q L P) x t := ⟨_, rfl⟩
    have hMl : M.length ≤ 4 := by rw [hM]; exact Nat.le_trans (canL_len _ _ _ _ _) (by omega)
    rw [← hM] at hown
    by_cases htl : t < K
    · have Kr := K4.below hB K4.lt
      have Er := E4.below hB E4.lt
      have hcs := canL_succ q f (stF q L P) x t
      rw [← hM] at hcs
      obtain ⟨r, hr⟩ : ∃ r, canB q f (stF q L P t) x = r := ⟨_, rfl⟩
      obtain ⟨V, m, hv0, hv1⟩ : ∃ (V : Nat → Nat → Int) (m : Int), (r = false → V = stF q L ∧ m = 0) ∧ (r = true → V = goF q k st sf (stF q L) P t x ∧ m = ((goL q k st sf (stF q L) P t x).length : Int)) := by
        cases r
        · exact ⟨_, _, fun _ => ⟨rfl, rfl⟩, fun h => by cases h⟩
        · exact ⟨_, _, fun h => (by cases h), fun _ => ⟨rfl, rfl⟩⟩
      rw [hr] at hcs
      have hx := hbd t htl
      have htk : (t : Int) < k := by omega
      have HR := Lib.hid hr; have HV0 := Lib.hid hv0; have HV1 := Lib.hid hv1; have HCS := Lib.hid hcs
      clear hr hv0 hv1 hcs hM
      go_wp2_with (first | (refine wpList_load_row rfl 68 (.tmp 11) rfl (w2.heap.size + 1) rfl _ _ _ _ Er Try.underlying68 rfl ?_ ?_; (rw [stand_size]; exact sizeStand)))
      refine (behind_any _ q f k A1 c1 st sf _ Kr (h1.go hbw) (stF q L) P t x q4 q60 k1 k4 n4 st0 hPn htk hx.1 hx.2 hxb.1 (by omega) V m r HR.out HV0.out HV1.out).mono ?_
      rintro e w6 ⟨rfl, hx6⟩
      cases r
      · go_wp2_with (first | (refine wpList_store_row rfl 68 (.tmp 15) _ rfl w6.heap.size rfl _ _ (standC V) rfl (heap_alloc_at w6 _ _ rfl) ?_ ?_ (stand_one _) ?_; (simp only [stand_size]); (rw [stand_size]; exact sizeStand); intro w7 hC7 hg7 hs7))
        have hx7 : Below wr.heap.size wr w7 := hx6.trans ((((Below.refl w6.heap.size w6).alloc (Nat.le_refl _) _).grown hg7 (by simp) (fun k h => by injection h with h; omega)).mono hx6.size)
        go_roundw
        case rel => exact ⟨t + 1, by omega, by go_num, hB.trans (hx7.mono hsz), by rw [HCS.out, if_neg (by simp), List.append_nil]; exact own_below hown hx7⟩
        case measure => simp [intOf]; omega
      · go_wp2_with (first | (refine wpList_store_row rfl 68 (.tmp 15) _ rfl w6.heap.size rfl _ _ (standC V) rfl (heap_alloc_at w6 _ _ rfl) ?_ ?_ (stand_one _) ?_; (simp only [stand_size]); (rw [stand_size]; exact sizeStand); intro w7 hC7 hg7 hs7; clear hs7; have hx7 : Below wr.heap.size wr w7 := hx6.trans ((((Below.refl w6.heap.size w6).alloc (Nat.le_refl _) _).grown hg7 (by simp) (fun k h => by injection h with h; omega)).mono hx6.size); have own7 := own_below hown hx7; have hB7 := hB.trans (hx7.mono hsz); have hsz7 := hB7.size) | (at_builtin; go_loud (refine wpList_append_own _ rfl _ _ 22 rfl w4.heap.size 3 i0 (.int .i64 0) 1 8 Try.underlying22 hi hz0 hz1 hz2 rfl (by decide) _ _ _ rfl (own7.alloc _) ⟨w7.heap.size, 0, none⟩ 1 1 [.int .i64 (t : Int)] rfl rfl (cell_new1' _ _ _) (one_int _) (by unfold maxLen; omega) (by omega) (by simp; omega) ?_; intro v1 w8 hown8 hg8 _)))
        go_roundw
        case rel =>
          refine ⟨t + 1, by omega, by go_num, (hB7.alloc hsz7 _).grown hg8 (by simp; omega) (fun i h => own_from own7 i h), ?_⟩
          have hcs := HCS.out
          simp only [if_true] at hcs
          rw [hcs, List.length_append, List.map_append]
          exact hown8
        case measure => simp [intOf]; omega
    · obtain rfl : t = K := by omega
      obtain ⟨Av, cv, rfl, hO⟩ := own_oi hown rfl
      subst hM
      go_wp2
      go_ret2
      exact ⟨Av, cv, rfl, hO.low hb4.size, hbw⟩

theorem tokensToGo_both (q f k : Int) (st sf : List Int) (L : List (List Int)) (p x : Int) : ∃ R : List Int × Bool, R.1.length ≤ 1048576 ∧
    (∀ (A1 A2 : Option Addr) (c1 c2 : Nat) (A3 : Option Addr) (c3 : Nat) (w : World), RI w w.heap.size A1 st → RI w w.heap.size A2 sf → st.length ≤ c1 → RG w w.heap.size A3 L → Calls Try.prog 36 #[.agg #[.int .i64 q, .int .i64 f, .int .i64 k, .slice A1 st.length c1, .slice A2 sf.length c2], .slice A3 L.length c3, .int .i64 p, .int .i64 x] w (IntsBack w R)) ∧
    (∀ (A1 A2 : Option Addr) (c1 c2 : Nat) (A3 : Option Addr) (c3 : Nat) (w : World), RI w w.heap.size A1 st → RI w w.heap.size A2 sf → st.length ≤ c1 → RG w w.heap.size A3 L → Calls Try.prog 37 #[.agg #[.int .i64 q, .int .i64 f, .int .i64 k, .slice A1 st.length c1, .slice A2 sf.length c2], .slice A3 L.length c3, .int .i64 p, .int .i64 x] w (IntsBack w R)) := by
  cases h : askB q f k st sf L p 0 x
  · exact ⟨([], false), by simp, fun A1 A2 c1 c2 A3 c3 w a b c d => specTTG_any q f k A1 A2 A3 c1 c2 c3 st sf L p x w a b d c _ _ h (fun _ => rfl) (fun e => by cases e), fun A1 A2 c1 c2 A3 c3 w a b c d => implTTG_no q f k A1 A2 A3 c1 c2 c3 st sf L p x w a b d c h⟩
  · refine ⟨(canL q f (stF q L p.toNat) x k.toNat, true), ?_, fun A1 A2 c1 c2 A3 c3 w a b c d => specTTG_any q f k A1 A2 A3 c1 c2 c3 st sf L p x w a b d c _ _ h (fun e => by cases e) (fun _ => rfl), fun A1 A2 c1 c2 A3 c3 w a b c d => implTTG_yes q f k A1 A2 A3 c1 c2 c3 st sf L p x w a b d c h⟩
    have := (state_is (Bool.and_eq_true_iff.1 h).1).1.k4
    exact Nat.le_trans (canL_len _ _ _ _ _) (by omega)

end Go.Proofs.Ytpecocmgclancaa
