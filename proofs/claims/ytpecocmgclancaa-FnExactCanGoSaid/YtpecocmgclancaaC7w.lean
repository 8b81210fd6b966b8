/-
  Tracks: CanGo on both sides.
-/
import Derived.Test.YtpecocmgclancaaC7v
import Derived.ChangeKeysEq
import Derived.Deep.RegionHeld3
namespace Go.Proofs.Ytpecocmgclancaa
open Go.RowKit

set_option maxHeartbeats 1000000 in
theorem specCanGo_any (q f k : Int) (A1 A2 A3 : Option Addr) (c1 c2 c3 : Nat) (st sf : List Int) (L : List (List Int)) (p t x : Int) (w : World) (h1 : RI w w.heap.size A1 st) (h2 : RI w w.heap.size A2 sf) (h3 : RG w w.heap.size A3 L) (hc : st.length ≤ c1) (r : Bool) (R : Bool) (hr : askB q f k st sf L p t x = r) (hR0 : r = false → R = false) (hR1 : r = true → R = canB q f (stF q L p.toNat t.toNat) x) :
    Calls Try.prog 32 #[.agg #[.int .i64 q, .int .i64 f, .int .i64 k, .slice A1 st.length c1, .slice A2 sf.length c2], .slice A3 L.length c3, .int .i64 p, .int .i64 t, .int .i64 x] w fun e w' => e = .returned (.tuple #[.bool R, .bool r]) ∧ Below w.heap.size w w' := by
  have hl := h1.1
  have hl2 := h2.1
  have hl3 := h3.1
  have HR := Lib.hid hr
  clear hr
  go_enter Try.func32, Try.ntmps32
  go_wp2_with fail
  refine (trAsked_any q f k A1 A2 A3 c1 c2 c3 st sf L p t x _ (h1.go (below1 _ _)) (h2.go (below1 _ _)) ((h3.below (below1 _ _)).more (below1 _ _).size) hc).mono ?_
  rintro e w2 ⟨rfl, hx⟩
  rw [HR.out]
  have hb := box_on (Below.refl _ _) hx (by simp)
  have hbw := (below1 w (.cells #[.int .i64 q, .int .i64 f, .int .i64 k, .slice A1 st.length c1, .slice A2 sf.length c2] 27)).trans (hb.mono (by omega))
  have qq := boxcells hb
  clear hx
  cases r
  · obtain rfl := hR0 rfl
    go_wp2
    go_ret2
    exact ⟨rfl, hbw⟩
  have hRR := hR1 rfl
  clear hR0 hR1
  have hTS := state_is (Bool.and_eq_true_iff.1 HR.out).1
  obtain ⟨q4, q60, f1, f8, k1, k4, n2, n4, st0, sf0, sfl⟩ := hTS.1
  have hSt := hTS.2
  have hmv := (Bool.and_eq_true_iff.1 HR.out).2
  have hmb := hmv
  rw [mvB, Bool.and_eq_true, Bool.and_eq_true, inB_iff, inB_iff, inB_iff] at hmb
  obtain ⟨⟨hpb, htb⟩, hxb⟩ := hmb
  obtain ⟨P, hP⟩ := Int.eq_ofNat_of_zero_le hpb.1
  obtain ⟨T, hT⟩ := Int.eq_ofNat_of_zero_le htb.1
  subst hP hT
  have hlt : P < L.length := by have := hSt.len; omega
  have hrl := hSt.row P hlt
  have htl : T < L[P].length := by omega
  have hxx := hSt.val P hlt T htl
  rw [← stF_at (q := q) hlt htl] at hxx
  have hxx2 := hxx
  rw [stF_at (q := q) hlt htl] at hxx2
  rw [Int.toNat_natCast, Int.toNat_natCast, stF_at hlt htl] at hRR
  obtain ⟨b, off, A', c', rfl, hbb, hc0, hrow⟩ := h3.at_ (Below.refl _ w) hlt
  obtain ⟨b2, off2, rfl, hbb2, hd0⟩ := hrow.at_ (Below.refl _ w) htl
  have hcc := (bcell hbw hbb).trans hc0
  have hdd := (bcell hbw hbb2).trans hd0
  obtain ⟨y, hy⟩ : ∃ y, y = L[P][T] := ⟨_, rfl⟩
  obtain ⟨m, hm⟩ : ∃ m, m = L[P].length := ⟨_, rfl⟩
  rw [← hy] at hdd hRR hxx2
  rw [← hm] at hcc htl
  have HRR := Lib.hid hRR
  clear hc0 hd0 hrow hy hm hrl hRR hSt hTS hmv HR hxx
  have hbd := hbw.drew
  go_wp2_with fail
  go_region_held3 (fun w' => Below w.heap.size w w' ∧ (∀ i, w'.cell? ⟨w.heap.size, i, none⟩ = #[.int .i64 q, .int .i64 f, .int .i64 k, .slice A1 st.length c1, .slice A2 sf.length c2][i]?) ∧ w'.cell? ⟨b, off + P, none⟩ = some (.slice (some ⟨b2, off2, none⟩) m c') ∧ w'.cell? ⟨b2, off2 + T, none⟩ = some (.int .i64 y)) (go_keep)
    (first | (go_at_call 65; refine (trCan_any q f k A1 A2 st.length c1 sf.length c2 y x _ hxx2.2 q60 hxb.1 (by omega)).mono ?_; rintro e w5 ⟨rfl, hx⟩; rw [← HRR.out]; have k0 := keepB hbd (Nat.le_refl _) hx; have k1' := box_on hb.drew hx (by have := hb.size; simpa using this); have k2 := boxcells k1'; have k3 := keepcell hx (show w2.drew.cell? _ = _ from hcc); have k4' := keepcell hx (show w2.drew.cell? _ = _ from hdd)))
  go_wp2
  go_ret2
  exact ⟨rfl, k0⟩

set_option maxRecDepth 100000 in
set_option maxHeartbeats 2000000 in
theorem implCanGo_no (q f k : Int) (A1 A2 A3 : Option Addr) (c1 c2 c3 : Nat) (st sf : List Int) (L : List (List Int)) (p t x : Int) (w : World) (h1 : RI w w.heap.size A1 st) (h2 : RI w w.heap.size A2 sf) (h3 : RG w w.heap.size A3 L) (hc : st.length ≤ c1) (hr : askB q f k st sf L p t x = false) :
    Calls Try.prog 33 #[.agg #[.int .i64 q, .int .i64 f, .int .i64 k, .slice A1 st.length c1, .slice A2 sf.length c2], .slice A3 L.length c3, .int .i64 p, .int .i64 t, .int .i64 x] w fun e w' => e = .returned (.tuple #[.bool false, .bool false]) ∧ Below w.heap.size w w' := by
  have hl := h1.1
  have hl2 := h2.1
  have hl3 := h3.1
  cases hz : (trkOk q f k st sf && stateB q k st sf L)
  · have HF := Lib.hid hz
    clear hz hr
    have z0 := zeroRing
    have z1 := zeroStand
    go_enter Try.func33, Try.ntmps33
    go_wp2_with fail
    refine (ringAndStand_fail q f k A1 A2 A3 c1 c2 c3 st sf L _ (h1.go (below1 _ _)) (h2.go (below1 _ _)) ((h3.below (below1 _ _)).more (below1 _ _).size) hc HF.out).mono ?_
    rintro e w2 ⟨RV, V, rfl, hRs, hR1, hx⟩
    have hbx := box_on (Below.refl _ _) hx (by simp)
    clear hx
    go_wp2_with (first | (refine wpList_store_row rfl 62 (.tmp 12) _ rfl w2.heap.size rfl _ _ (RV) rfl ((Below.heap_alloc _ _ _ (by simp)).trans (heap_alloc_at _ _ _ rfl)) ?_ ?_ hR1 ?_; (rw [hRs, ring_size]); (rw [hRs]; exact sizeRing); intro w3 hC3 hg3 hs3; have N3 := (hg3.block (w2.heap.size + 1) (by simp) (by simp)).trans (heap_alloc_at _ _ _ (by simp))) | (refine wpList_store_row rfl 68 (.tmp 13) _ rfl (w2.heap.size + 1) rfl _ _ (standC (V)) rfl N3 ?_ ?_ (stand_one _) ?_; (simp only [stand_size]); (rw [stand_size]; exact sizeStand); intro w4 hC4 hg4 hs4))
    have hsz2 : w.heap.size + 1 ≤ w2.heap.size := by have := hbx.size; simpa using this
    have hbx4 : Below (w.heap.size + 1) (w.alloc (.cells #[.int .i64 q, .int .i64 f, .int .i64 k, .slice A1 st.length c1, .slice A2 sf.length c2] 27)) w4 := (((hbx.alloc hsz2 _).alloc (by simp; omega) _).grown hg3 (by simp; omega) (fun k h => by injection h with h; omega)).grown hg4 (by have := hg3.size; simp at this; omega) (fun k h => by injection h with h; omega)
    have hb4 : Below w.heap.size w w4 := (below1 w _).trans (hbx4.mono (by omega))
    go_ret2
    exact ⟨rfl, hb4.alloc hb4.size _⟩
  have hp : mvB f k st.length p t x = false := by rw [askB, hz, Bool.true_and] at hr; exact hr
  have hTS := state_is hz
  have k1 := hTS.1.k1
  have k4 := hTS.1.k4
  have HP := Lib.hid hp
  rw [Bool.and_eq_true] at hz
  have HZ := Lib.hid hz.1; have HS := Lib.hid hz.2
  clear hz hr hp hTS
  have z0 := zeroRing
  have z1 := zeroStand
  go_enter Try.func33, Try.ntmps33
  go_wp2_with fail
  refine (ringAndStand_in q f k A1 A2 A3 c1 c2 c3 st sf L _ (h1.go (below1 _ _)) (h2.go (below1 _ _)) ((h3.below (below1 _ _)).more (below1 _ _).size) hc HZ.out).mono ?_
  rintro e w2 ⟨V, rfl, hV, hx⟩
  rw [HS.out] at hV ⊢
  obtain rfl := hV rfl
  clear hV
  have hbx := box_on (Below.refl _ _) hx (by simp)
  clear hx
  go_wp2_with (first | (refine wpList_store_row rfl 62 (.tmp 12) _ rfl w2.heap.size rfl _ _ (ringC q f k A1 st.length c1 (safeB sf)) rfl ((Below.heap_alloc _ _ _ (by simp)).trans (heap_alloc_at _ _ _ rfl)) ?_ ?_ ring_one ?_; (simp only [ring_size]); (rw [ring_size]; exact sizeRing); intro w3 hC3 hg3 hs3; have N3 := (hg3.block (w2.heap.size + 1) (by simp) (by simp)).trans (heap_alloc_at _ _ _ (by simp))) | (refine wpList_store_row rfl 68 (.tmp 13) _ rfl (w2.heap.size + 1) rfl _ _ (standC (stF q L)) rfl N3 ?_ ?_ (stand_one _) ?_; (simp only [stand_size]); (rw [stand_size]; exact sizeStand); intro w4 hC4 hg4 hs4))
  have hsz2 : w.heap.size + 1 ≤ w2.heap.size := by have := hbx.size; simpa using this
  have hbx4 : Below (w.heap.size + 1) (w.alloc (.cells #[.int .i64 q, .int .i64 f, .int .i64 k, .slice A1 st.length c1, .slice A2 sf.length c2] 27)) w4 := (((hbx.alloc hsz2 _).alloc (by simp; omega) _).grown hg3 (by simp; omega) (fun k h => by injection h with h; omega)).grown hg4 (by have := hg3.size; simp at this; omega) (fun k h => by injection h with h; omega)
  have hb4 : Below w.heap.size w w4 := (below1 w _).trans (hbx4.mono (by omega))
  have K4 : RA w4 w2.heap.size 62 q f k A1 st.length c1 (safeB sf) := (hg4.block _ (heap_lt hC3) (by simp)).trans hC3
  have E4 : DA w4 (w2.heap.size + 1) 68 (stF q L) := hC4
  refine (hasMove_any _ _ _ _ _ _ _ _ _ (K4.alloc _) p t x hl (by omega) k4).mono ?_
  rintro e w5 ⟨rfl, hx⟩
  rw [HP.out]
  go_wp2_with fail
  go_ret2
  exact ⟨rfl, (hb4.alloc hb4.size _).trans (hx.mono (by simp; have := hb4.size; omega))⟩

set_option maxRecDepth 100000 in
set_option maxHeartbeats 2000000 in
theorem implCanGo_yes (q f k : Int) (A1 A2 A3 : Option Addr) (c1 c2 c3 : Nat) (st sf : List Int) (L : List (List Int)) (p t x : Int) (w : World) (h1 : RI w w.heap.size A1 st) (h2 : RI w w.heap.size A2 sf) (h3 : RG w w.heap.size A3 L) (hc : st.length ≤ c1) (hr : askB q f k st sf L p t x = true) :
    Calls Try.prog 33 #[.agg #[.int .i64 q, .int .i64 f, .int .i64 k, .slice A1 st.length c1, .slice A2 sf.length c2], .slice A3 L.length c3, .int .i64 p, .int .i64 t, .int .i64 x] w fun e w' => e = .returned (.tuple #[.bool (canB q f (stF q L p.toNat t.toNat) x), .bool true]) ∧ Below w.heap.size w w' := by
  have hl := h1.1
  have hl2 := h2.1
  have hl3 := h3.1
  have hTS := state_is (Bool.and_eq_true_iff.1 hr).1
  obtain ⟨q4, q60, f1, f8, k1, k4, n2, n4, st0, sf0, sfl⟩ := hTS.1
  have hSt := hTS.2
  have hmv := (Bool.and_eq_true_iff.1 hr).2
  have hmb := hmv
  rw [mvB, Bool.and_eq_true, Bool.and_eq_true, inB_iff, inB_iff, inB_iff] at hmb
  obtain ⟨⟨hpb, htb⟩, hxb⟩ := hmb
  obtain ⟨P, hP⟩ := Int.eq_ofNat_of_zero_le hpb.1
  obtain ⟨T, hT⟩ := Int.eq_ofNat_of_zero_le htb.1
  subst hP hT
  have hlt : P < L.length := by have := hSt.len; omega
  have hrl := hSt.row P hlt
  have htl : T < L[P].length := by omega
  have hxx := hSt.val P hlt T htl
  rw [← stF_at (q := q) hlt htl] at hxx
  rw [Int.toNat_natCast, Int.toNat_natCast]
  obtain ⟨R, hR⟩ : ∃ R, canB q f (stF q L P T) x = R := ⟨_, rfl⟩
  obtain ⟨V, m, hv0, hv1⟩ : ∃ (V : Nat → Nat → Int) (m : Int), (R = false → V = stF q L ∧ m = 0) ∧ (R = true → V = goF q k st sf (stF q L) P T x ∧ m = ((goL q k st sf (stF q L) P T x).length : Int)) := by
    cases R
    · exact ⟨_, _, fun _ => ⟨rfl, rfl⟩, fun h => by cases h⟩
    · exact ⟨_, _, fun h => (by cases h), fun _ => ⟨rfl, rfl⟩⟩
  rw [hR]
  have HR := Lib.hid hR; have HV0 := Lib.hid hv0; have HV1 := Lib.hid hv1
  have HMV := Lib.hid hmv
  have hz := (Bool.and_eq_true_iff.1 hr).1
  rw [Bool.and_eq_true] at hz
  have HZ := Lib.hid hz.1; have HS := Lib.hid hz.2
  have hPn : P < st.length := by omega
  have hTk : (T : Int) < k := by omega
  clear hrl hSt hTS hr hz hR hv0 hv1 hmv htl hlt
  have z0 := zeroRing
  have z1 := zeroStand
  go_enter Try.func33, Try.ntmps33
  go_wp2_with fail
  refine (ringAndStand_in q f k A1 A2 A3 c1 c2 c3 st sf L _ (h1.go (below1 _ _)) (h2.go (below1 _ _)) ((h3.below (below1 _ _)).more (below1 _ _).size) hc HZ.out).mono ?_
  rintro e w2 ⟨V, rfl, hV, hx⟩
  rw [HS.out] at hV ⊢
  obtain rfl := hV rfl
  clear hV
  have hbx := box_on (Below.refl _ _) hx (by simp)
  clear hx
  go_wp2_with (first | (refine wpList_store_row rfl 62 (.tmp 12) _ rfl w2.heap.size rfl _ _ (ringC q f k A1 st.length c1 (safeB sf)) rfl ((Below.heap_alloc _ _ _ (by simp)).trans (heap_alloc_at _ _ _ rfl)) ?_ ?_ ring_one ?_; (simp only [ring_size]); (rw [ring_size]; exact sizeRing); intro w3 hC3 hg3 hs3; have N3 := (hg3.block (w2.heap.size + 1) (by simp) (by simp)).trans (heap_alloc_at _ _ _ (by simp))) | (refine wpList_store_row rfl 68 (.tmp 13) _ rfl (w2.heap.size + 1) rfl _ _ (standC (stF q L)) rfl N3 ?_ ?_ (stand_one _) ?_; (simp only [stand_size]); (rw [stand_size]; exact sizeStand); intro w4 hC4 hg4 hs4))
  have hsz2 : w.heap.size + 1 ≤ w2.heap.size := by have := hbx.size; simpa using this
  have hbx4 : Below (w.heap.size + 1) (w.alloc (.cells #[.int .i64 q, .int .i64 f, .int .i64 k, .slice A1 st.length c1, .slice A2 sf.length c2] 27)) w4 := (((hbx.alloc hsz2 _).alloc (by simp; omega) _).grown hg3 (by simp; omega) (fun k h => by injection h with h; omega)).grown hg4 (by have := hg3.size; simp at this; omega) (fun k h => by injection h with h; omega)
  have hb4 : Below w.heap.size w w4 := (below1 w _).trans (hbx4.mono (by omega))
  have K4 : RA w4 w2.heap.size 62 q f k A1 st.length c1 (safeB sf) := (hg4.block _ (heap_lt hC3) (by simp)).trans hC3
  have E4 : DA w4 (w2.heap.size + 1) 68 (stF q L) := hC4
  refine (hasMove_any _ _ _ _ _ _ _ _ _ (K4.alloc _) (P : Int) (T : Int) x hl (by omega) k4).mono ?_
  rintro e w5 ⟨rfl, hx⟩
  rw [HMV.out]
  have K5 := (K4.alloc (.cells #[.int .i64 (P : Int), .int .i64 (T : Int), .int .i64 x] 83)).go hx
  have E5 := (E4.alloc (.cells #[.int .i64 (P : Int), .int .i64 (T : Int), .int .i64 x] 83)).go hx
  have hm5 := box_on (Below.refl _ _) hx (by simp)
  have e4 : w4.heap.size = w2.heap.size + 1 + 1 := by simp [hs4, hs3]
  have qm := boxcells hm5
  rw [e4] at qm
  have hb5 := (hb4.alloc hb4.size (.cells #[.int .i64 (P : Int), .int .i64 (T : Int), .int .i64 x] 83)).trans (hx.mono (by simp; have := hb4.size; omega))
  clear hx hm5 K4 E4 hb4 hbx hbx4 hC3 hC4 hg3 hg4 N3
  go_wp2_with (first | (refine wpList_load_row rfl 68 (.tmp 13) rfl (w2.heap.size + 1) rfl _ _ _ _ E5 Try.underlying68 rfl ?_ ?_; (rw [stand_size]; exact sizeStand)))
  refine (behind_any _ q f k A1 c1 st sf _ K5 (h1.go hb5) (stF q L) P T x q4 q60 k1 k4 n4 st0 hPn hTk hxx.1 hxx.2 hxb.1 (by omega) V m R HR.out HV0.out HV1.out).mono ?_
  rintro e w6 ⟨rfl, hx6⟩
  have hb6 := hb5.trans (hx6.mono hb5.size)
  go_wp2_with (first | (refine wpList_store_row rfl 68 (.tmp 16) _ rfl w6.heap.size rfl _ _ (standC V) rfl (heap_alloc_at w6 _ _ rfl) ?_ ?_ (stand_one _) ?_; (simp only [stand_size]); (rw [stand_size]; exact sizeStand); intro w7 hC7 hg7 hs7))
  go_ret2
  exact ⟨rfl, (hb6.alloc hb6.size _).grown hg7 (by simp; have := hb6.size; omega) (fun k h => by injection h with h; have := hb6.size; omega)⟩

theorem canGo_both (q f k : Int) (st sf : List Int) (L : List (List Int)) (p t x : Int) : ∃ (y ok : Bool),
    (∀ (A1 A2 : Option Addr) (c1 c2 : Nat) (A3 : Option Addr) (c3 : Nat) (w : World), RI w w.heap.size A1 st → RI w w.heap.size A2 sf → st.length ≤ c1 → RG w w.heap.size A3 L → Calls Try.prog 32 #[.agg #[.int .i64 q, .int .i64 f, .int .i64 k, .slice A1 st.length c1, .slice A2 sf.length c2], .slice A3 L.length c3, .int .i64 p, .int .i64 t, .int .i64 x] w fun e w' => e = .returned (.tuple #[.bool y, .bool ok]) ∧ Below w.heap.size w w') ∧
    (∀ (A1 A2 : Option Addr) (c1 c2 : Nat) (A3 : Option Addr) (c3 : Nat) (w : World), RI w w.heap.size A1 st → RI w w.heap.size A2 sf → st.length ≤ c1 → RG w w.heap.size A3 L → Calls Try.prog 33 #[.agg #[.int .i64 q, .int .i64 f, .int .i64 k, .slice A1 st.length c1, .slice A2 sf.length c2], .slice A3 L.length c3, .int .i64 p, .int .i64 t, .int .i64 x] w fun e w' => e = .returned (.tuple #[.bool y, .bool ok]) ∧ Below w.heap.size w w') := by
  cases h : askB q f k st sf L p t x
  · exact ⟨false, false, fun A1 A2 c1 c2 A3 c3 w a b c d => specCanGo_any q f k A1 A2 A3 c1 c2 c3 st sf L p t x w a b d c _ _ h (fun _ => rfl) (fun e => by cases e), fun A1 A2 c1 c2 A3 c3 w a b c d => implCanGo_no q f k A1 A2 A3 c1 c2 c3 st sf L p t x w a b d c h⟩
  · exact ⟨_, true, fun A1 A2 c1 c2 A3 c3 w a b c d => specCanGo_any q f k A1 A2 A3 c1 c2 c3 st sf L p t x w a b d c _ _ h (fun e => by cases e) (fun _ => rfl), fun A1 A2 c1 c2 A3 c3 w a b c d => implCanGo_yes q f k A1 A2 A3 c1 c2 c3 st sf L p t x w a b d c h⟩

end Go.Proofs.Ytpecocmgclancaa
