/-
  Tracks: GoToken, the program's side.
-/
import Derived.Test.YtpecocmgclancaaC7z
import Derived.Test.YtpecocmgclancaaC7zb
import Derived.ChangeKeysEq
import Derived.Deep.RegionHeld3
namespace Go.Proofs.Ytpecocmgclancaa
open Go.RowKit

/-- A slice of slices of numbers, a number and a bool are handed back. -/
def GridIBack (w : World) (n : Nat) (len : Nat → Nat) (F : Nat → Nat → Int) (z : Int) (ok : Bool) (e : Ending) (w' : World) : Prop :=
  ∃ A c Bk C, e = .returned (.tuple #[.slice A n c, .int .i64 z, .bool ok]) ∧ Grid w' w.heap.size 22 3 (.slice A n c) n len F Bk C ∧ Below w.heap.size w w'

set_option maxRecDepth 100000 in
set_option maxHeartbeats 2000000 in
theorem implGo_ask (q f k : Int) (A1 A2 A3 : Option Addr) (c1 c2 c3 : Nat) (st sf : List Int) (L : List (List Int)) (p t x : Int) (w : World) (h1 : RI w w.heap.size A1 st) (h2 : RI w w.heap.size A2 sf) (h3 : RG w w.heap.size A3 L) (hc : st.length ≤ c1) (hr : askB q f k st sf L p t x = false) :
    Calls Try.prog 35 #[.agg #[.int .i64 q, .int .i64 f, .int .i64 k, .slice A1 st.length c1, .slice A2 sf.length c2], .slice A3 L.length c3, .int .i64 p, .int .i64 t, .int .i64 x] w (GridIBack w 0 (fun _ => 0) (fun _ _ => 0) 0 false) := by
  have hl := h1.1
  have hl2 := h2.1
  have hl3 := h3.1
  cases hz : (trkOk q f k st sf && stateB q k st sf L)
  · have HF := Lib.hid hz
    clear hz hr
    have z0 := zeroRing
    have z1 := zeroStand
    go_enter Try.func35, Try.ntmps35
    go_wp2_with fail
    refine (ringAndStand_fail q f k A1 A2 A3 c1 c2 c3 st sf L _ (h1.go (below1 _ _)) (h2.go (below1 _ _)) ((h3.below (below1 _ _)).more (below1 _ _).size) hc HF.out).mono ?_
    rintro e w2 ⟨RV, V, rfl, hRs, hR1, hx⟩
    have hbx := box_on (Below.refl _ _) hx (by simp)
    clear hx
    go_wp2_with (first | (refine wpList_store_row rfl 62 (.tmp 13) _ rfl w2.heap.size rfl _ _ (RV) rfl ((Below.heap_alloc _ _ _ (by simp)).trans (heap_alloc_at _ _ _ rfl)) ?_ ?_ hR1 ?_; (rw [hRs, ring_size]); (rw [hRs]; exact sizeRing); intro w3 hC3 hg3 hs3; have N3 := (hg3.block (w2.heap.size + 1) (by simp) (by simp)).trans (heap_alloc_at _ _ _ (by simp))) | (refine wpList_store_row rfl 68 (.tmp 14) _ rfl (w2.heap.size + 1) rfl _ _ (standC (V)) rfl N3 ?_ ?_ (stand_one _) ?_; (simp only [stand_size]); (rw [stand_size]; exact sizeStand); intro w4 hC4 hg4 hs4))
    have hsz2 : w.heap.size + 1 ≤ w2.heap.size := by have := hbx.size; simpa using this
    have hbx4 : Below (w.heap.size + 1) (w.alloc (.cells #[.int .i64 q, .int .i64 f, .int .i64 k, .slice A1 st.length c1, .slice A2 sf.length c2] 27)) w4 := (((hbx.alloc hsz2 _).alloc (by simp; omega) _).grown hg3 (by simp; omega) (fun k h => by injection h with h; omega)).grown hg4 (by have := hg3.size; simp at this; omega) (fun k h => by injection h with h; omega)
    have hb4 : Below w.heap.size w w4 := (below1 w _).trans (hbx4.mono (by omega))
    go_ret3
    exact ⟨none, 0, _, _, rfl, Grid.nil _ _ _ _ _ _ (fun _ => 0) (fun _ => 0), hb4.alloc hb4.size _⟩
  have hp : mvB f k st.length p t x = false := by rw [askB, hz, Bool.true_and] at hr; exact hr
  have hTS := state_is hz
  have k1 := hTS.1.k1
  have k4 := hTS.1.k4
  have HP := Lib.hid hp
  rw [Bool.and_eq_true] at hz
  have HZ := Lib.hid hz.1; have HS := Lib.hid hz.2
  clear hz hr hp hTS
  have z0 := zeroRing
  have z1 := zeroStand
  go_enter Try.func35, Try.ntmps35
  go_wp2_with fail
  refine (ringAndStand_in q f k A1 A2 A3 c1 c2 c3 st sf L _ (h1.go (below1 _ _)) (h2.go (below1 _ _)) ((h3.below (below1 _ _)).more (below1 _ _).size) hc HZ.out).mono ?_
  rintro e w2 ⟨V, rfl, hV, hx⟩
  rw [HS.out] at hV ⊢
  obtain rfl := hV rfl
  clear hV
  have hbx := box_on (Below.refl _ _) hx (by simp)
  clear hx
  go_wp2_with (first | (refine wpList_store_row rfl 62 (.tmp 13) _ rfl w2.heap.size rfl _ _ (ringC q f k A1 st.length c1 (safeB sf)) rfl ((Below.heap_alloc _ _ _ (by simp)).trans (heap_alloc_at _ _ _ rfl)) ?_ ?_ ring_one ?_; (simp only [ring_size]); (rw [ring_size]; exact sizeRing); intro w3 hC3 hg3 hs3; have N3 := (hg3.block (w2.heap.size + 1) (by simp) (by simp)).trans (heap_alloc_at _ _ _ (by simp))) | (refine wpList_store_row rfl 68 (.tmp 14) _ rfl (w2.heap.size + 1) rfl _ _ (standC (stF q L)) rfl N3 ?_ ?_ (stand_one _) ?_; (simp only [stand_size]); (rw [stand_size]; exact sizeStand); intro w4 hC4 hg4 hs4))
  have hsz2 : w.heap.size + 1 ≤ w2.heap.size := by have := hbx.size; simpa using this
  have hbx4 : Below (w.heap.size + 1) (w.alloc (.cells #[.int .i64 q, .int .i64 f, .int .i64 k, .slice A1 st.length c1, .slice A2 sf.length c2] 27)) w4 := (((hbx.alloc hsz2 _).alloc (by simp; omega) _).grown hg3 (by simp; omega) (fun k h => by injection h with h; omega)).grown hg4 (by have := hg3.size; simp at this; omega) (fun k h => by injection h with h; omega)
  have hb4 : Below w.heap.size w w4 := (below1 w _).trans (hbx4.mono (by omega))
  have K4 : RA w4 w2.heap.size 62 q f k A1 st.length c1 (safeB sf) := (hg4.block _ (heap_lt hC3) (by simp)).trans hC3
  have E4 : DA w4 (w2.heap.size + 1) 68 (stF q L) := hC4
  refine (hasMove_any _ _ _ _ _ _ _ _ _ (K4.alloc _) p t x hl (by omega) k4).mono ?_
  rintro e w5 ⟨rfl, hx⟩
  rw [HP.out]
  go_wp2_with fail
  go_ret3
  exact ⟨none, 0, _, _, rfl, Grid.nil _ _ _ _ _ _ (fun _ => 0) (fun _ => 0), (hb4.alloc hb4.size _).trans (hx.mono (by simp; have := hb4.size; omega))⟩

set_option maxRecDepth 100000 in
set_option maxHeartbeats 2000000 in
theorem implGo_any (q f k : Int) (A1 A2 A3 : Option Addr) (c1 c2 c3 : Nat) (st sf : List Int) (L : List (List Int)) (p t x : Int) (w : World) (h1 : RI w w.heap.size A1 st) (h2 : RI w w.heap.size A2 sf) (h3 : RG w w.heap.size A3 L) (hc : st.length ≤ c1) (hr : askB q f k st sf L p t x = true) (r : Bool) (hcn : canB q f (stF q L p.toNat t.toNat) x = r) (n : Nat) (FF : Nat → Nat → Int) (z : Int)
    (hr0 : r = false → n = 0 ∧ z = 0) (hr1 : r = true → n = L.length ∧ FF = goF q k st sf (stF q L) p.toNat t.toNat x ∧ z = ((goL q k st sf (stF q L) p.toNat t.toNat x).length : Int)) :
    Calls Try.prog 35 #[.agg #[.int .i64 q, .int .i64 f, .int .i64 k, .slice A1 st.length c1, .slice A2 sf.length c2], .slice A3 L.length c3, .int .i64 p, .int .i64 t, .int .i64 x] w (GridIBack w n (fun _ => k.toNat) FF z r) := by
  have hl := h1.1
  have hl2 := h2.1
  have hl3 := h3.1
  have hTS := state_is (Bool.and_eq_true_iff.1 hr).1
  have hTT := hTS.1
  obtain ⟨q4, q60, f1, f8, k1, k4, n2, n4, st0, sf0, sfl⟩ := hTS.1
  have hSt := hTS.2
  have hmv := (Bool.and_eq_true_iff.1 hr).2
  have hmb := hmv
  rw [mvB, Bool.and_eq_true, Bool.and_eq_true, inB_iff, inB_iff, inB_iff] at hmb
  obtain ⟨⟨hpb, htb⟩, hxb⟩ := hmb
  have hx8 : x ≤ 8 := by omega
  obtain ⟨P, hP⟩ := Int.eq_ofNat_of_zero_le hpb.1
  obtain ⟨T, hT⟩ := Int.eq_ofNat_of_zero_le htb.1
  subst hP hT
  have hlt : P < L.length := by have := hSt.len; omega
  have hrl := hSt.row P hlt
  have htl : T < L[P].length := by omega
  have hxx := hSt.val P hlt T htl
  rw [← stF_at (q := q) hlt htl] at hxx
  rw [Int.toNat_natCast, Int.toNat_natCast] at hcn hr1
  obtain ⟨V, m, hv0, hv1, hv2⟩ : ∃ (V : Nat → Nat → Int) (m : Int), (r = false → V = stF q L ∧ m = 0) ∧ (r = true → V = goF q k st sf (stF q L) P T x ∧ m = ((goL q k st sf (stF q L) P T x).length : Int)) ∧ (r = true → V = FF ∧ m = z) := by
    cases r
    · exact ⟨_, _, fun _ => ⟨rfl, rfl⟩, fun h => (by cases h), fun h => by cases h⟩
    · exact ⟨_, _, fun h => (by cases h), fun _ => ⟨rfl, rfl⟩, fun h => ⟨(hr1 h).2.1.symm, (hr1 h).2.2.symm⟩⟩
  have hn1 : r = true → n = st.length := fun h => by rw [(hr1 h).1, hSt.len]
  have HR := Lib.hid hcn; have HV0 := Lib.hid hv0; have HV1 := Lib.hid hv1
  have HMV := Lib.hid hmv
  have hz := (Bool.and_eq_true_iff.1 hr).1
  rw [Bool.and_eq_true] at hz
  have HZ := Lib.hid hz.1; have HS := Lib.hid hz.2
  have hPn : P < st.length := by omega
  have hT4 : T < 4 := by omega
  clear hrl hSt hTS hr hz hcn hv0 hv1 hmv htl hlt hr1 hTT
  have z0 := zeroRing
  have z1 := zeroStand
  go_enter Try.func35, Try.ntmps35
  go_wp2_with fail
  refine (ringAndStand_in q f k A1 A2 A3 c1 c2 c3 st sf L _ (h1.go (below1 _ _)) (h2.go (below1 _ _)) ((h3.below (below1 _ _)).more (below1 _ _).size) hc HZ.out).mono ?_
  rintro e w2 ⟨V, rfl, hV, hx⟩
  rw [HS.out] at hV ⊢
  obtain rfl := hV rfl
  clear hV
  have hbx := box_on (Below.refl _ _) hx (by simp)
  clear hx
  go_wp2_with (first | (refine wpList_store_row rfl 62 (.tmp 13) _ rfl w2.heap.size rfl _ _ (ringC q f k A1 st.length c1 (safeB sf)) rfl ((Below.heap_alloc _ _ _ (by simp)).trans (heap_alloc_at _ _ _ rfl)) ?_ ?_ ring_one ?_; (simp only [ring_size]); (rw [ring_size]; exact sizeRing); intro w3 hC3 hg3 hs3; have N3 := (hg3.block (w2.heap.size + 1) (by simp) (by simp)).trans (heap_alloc_at _ _ _ (by simp))) | (refine wpList_store_row rfl 68 (.tmp 14) _ rfl (w2.heap.size + 1) rfl _ _ (standC (stF q L)) rfl N3 ?_ ?_ (stand_one _) ?_; (simp only [stand_size]); (rw [stand_size]; exact sizeStand); intro w4 hC4 hg4 hs4))
  have hsz2 : w.heap.size + 1 ≤ w2.heap.size := by have := hbx.size; simpa using this
  have hbx4 : Below (w.heap.size + 1) (w.alloc (.cells #[.int .i64 q, .int .i64 f, .int .i64 k, .slice A1 st.length c1, .slice A2 sf.length c2] 27)) w4 := (((hbx.alloc hsz2 _).alloc (by simp; omega) _).grown hg3 (by simp; omega) (fun k h => by injection h with h; omega)).grown hg4 (by have := hg3.size; simp at this; omega) (fun k h => by injection h with h; omega)
  have hb4 : Below w.heap.size w w4 := (below1 w _).trans (hbx4.mono (by omega))
  have K4 : RA w4 w2.heap.size 62 q f k A1 st.length c1 (safeB sf) := (hg4.block _ (heap_lt hC3) (by simp)).trans hC3
  have E4 : DA w4 (w2.heap.size + 1) 68 (stF q L) := hC4
  refine (hasMove_any _ _ _ _ _ _ _ _ _ (K4.alloc _) (P : Int) (T : Int) x hl (by omega) k4).mono ?_
  rintro e w5 ⟨rfl, hx⟩
  rw [HMV.out]
  have K5 := (K4.alloc (.cells #[.int .i64 (P : Int), .int .i64 (T : Int), .int .i64 x] 83)).go hx
  have E5 := (E4.alloc (.cells #[.int .i64 (P : Int), .int .i64 (T : Int), .int .i64 x] 83)).go hx
  have hm5 := box_on (Below.refl _ _) hx (by simp)
  have e4 : w4.heap.size = w2.heap.size + 1 + 1 := by simp [hs4, hs3]
  have qm := boxcells hm5
  rw [e4] at qm
  have hb5 := (hb4.alloc hb4.size (.cells #[.int .i64 (P : Int), .int .i64 (T : Int), .int .i64 x] 83)).trans (hx.mono (by simp; have := hb4.size; omega))
  clear hx hm5 K4 E4 hb4 hbx hbx4 hC3 hC4 hg3 hg4 N3
  go_wp2_with (first | (refine wpList_load_row rfl 68 (.tmp 14) rfl (w2.heap.size + 1) rfl _ _ _ _ E5 Try.underlying68 rfl ?_ ?_; (rw [stand_size]; exact sizeStand)))
  refine (behind_any _ q f k A1 c1 st sf _ K5 (h1.go hb5) (stF q L) P T x q4 q60 k1 k4 n4 st0 hPn hT4 hxx.1 hxx.2 hxb.1 hx8 V m r HR.out HV0.out HV1.out).mono ?_
  rintro e w6 ⟨rfl, hx6⟩
  have hb6 := hb5.trans (hx6.mono hb5.size)
  have K6 := K5.go hx6
  cases r
  · obtain ⟨rfl, rfl⟩ := hr0 rfl
    go_wp2_with (first | (refine wpList_store_row rfl 68 (.tmp 17) _ rfl w6.heap.size rfl _ _ (standC V) rfl (heap_alloc_at w6 _ _ rfl) ?_ ?_ (stand_one _) ?_; (simp only [stand_size]); (rw [stand_size]; exact sizeStand); intro w7 hC7 hg7 hs7))
    go_ret3
    exact ⟨none, 0, _, _, rfl, Grid.nil _ _ _ _ _ _ (fun _ => 0) (fun _ => 0), (hb6.alloc hb6.size _).grown hg7 (by simp; have := hb6.size; omega) (fun k h => by injection h with h; have := hb6.size; omega)⟩
  · obtain ⟨rfl, rfl⟩ := hv2 rfl
    obtain rfl := hn1 rfl
    have hLs : st.length ≤ 4 := n4
    go_wp2_with (first | (refine wpList_store_row rfl 68 (.tmp 17) _ rfl w6.heap.size rfl _ _ (standC V) rfl (heap_alloc_at w6 _ _ rfl) ?_ ?_ (stand_one _) ?_; (simp only [stand_size]); (rw [stand_size]; exact sizeStand); intro w7 hC7 hg7 hs7) | (refine wpList_load_row rfl 68 (.tmp 17) rfl w6.heap.size rfl _ _ _ _ hC7 Try.underlying68 rfl ?_ ?_; (rw [stand_size]; exact sizeStand)))
    have hb7 := (hb6.alloc hb6.size (.cells (standC (fun _ _ => 0)) 68)).grown hg7 (by simp; have := hb6.size; omega) (fun k h => by injection h with h; have := hb6.size; omega)
    have K7 := (K6.alloc (.cells (standC (fun _ _ => 0)) 68)).grown hg7 (fun e => by injection e with e; have := K6.lt; omega)
    refine (stateOf_any w2.heap.size q f k A1 st.length c1 (safeB sf) w7 K7 V n4 k1 k4).mono ?_
    rintro e w8 ⟨g2, Bk, C, rfl, hG8, hx8'⟩
    go_wp2_with fail
    go_ret3
    exact ⟨some ⟨g2, 0, none⟩, st.length, Bk, C, rfl, hG8.mono hb7.size, hb7.trans (hx8'.mono hb7.size)⟩


end Go.Proofs.Ytpecocmgclancaa
