/-
  Tracks: the program's ringAndStand at large; IsTrackState on both sides; the model's trPlayer, trMove, trAsked.
-/
import Derived.Test.YtpecocmgclancaaC7m
import Derived.Test.YtpecocmgclancaaC7g
namespace Go.Proofs.Ytpecocmgclancaa
open Go.RowKit

theorem ringAndStand_all (q f k : Int) (A1 A2 A3 : Option Addr) (c1 c2 c3 : Nat) (st sf : List Int) (L : List (List Int)) (w : World) (h1 : RI w w.heap.size A1 st) (h2 : RI w w.heap.size A2 sf) (h3 : RG w w.heap.size A3 L) (hc : st.length ≤ c1) (r : Bool) (hr : (trkOk q f k st sf && stateB q k st sf L) = r) :
    Calls Try.prog 56 #[.agg #[.int .i64 q, .int .i64 f, .int .i64 k, .slice A1 st.length c1, .slice A2 sf.length c2], .slice A3 L.length c3] w fun e w' => ∃ (RV : Array Value) (V : Nat → Nat → Int), e = .returned (.tuple #[.agg RV, .agg (standC V), .bool r]) ∧ RV.size = 64 ∧ (∀ u ∈ RV.toList, u.oneCell' = true) ∧ Below w.heap.size w w' := by
  cases hz : trkOk q f k st sf
  · rw [hz, Bool.false_and] at hr
    subst hr
    refine (ringAndStand_out q f k A1 A2 A3 c1 c2 c3 st sf L w h1 h2 hc hz).mono ?_
    rintro e w' ⟨rfl, hx⟩
    exact ⟨_, _, rfl, ring_size, ring_one, hx⟩
  · rw [hz, Bool.true_and] at hr
    refine (ringAndStand_in q f k A1 A2 A3 c1 c2 c3 st sf L w h1 h2 h3 hc hz).mono ?_
    rintro e w' ⟨V, rfl, _, hx⟩
    rw [hr]
    exact ⟨_, V, rfl, ring_size, ring_one, hx⟩
theorem ringAndStand_fail (q f k : Int) (A1 A2 A3 : Option Addr) (c1 c2 c3 : Nat) (st sf : List Int) (L : List (List Int)) (w : World) (h1 : RI w w.heap.size A1 st) (h2 : RI w w.heap.size A2 sf) (h3 : RG w w.heap.size A3 L) (hc : st.length ≤ c1) (hr : (trkOk q f k st sf && stateB q k st sf L) = false) :
    Calls Try.prog 56 #[.agg #[.int .i64 q, .int .i64 f, .int .i64 k, .slice A1 st.length c1, .slice A2 sf.length c2], .slice A3 L.length c3] w fun e w' => ∃ (RV : Array Value) (V : Nat → Nat → Int), e = .returned (.tuple #[.agg RV, .agg (standC V), .bool false]) ∧ RV.size = 64 ∧ (∀ u ∈ RV.toList, u.oneCell' = true) ∧ Below w.heap.size w w' :=
  ringAndStand_all q f k A1 A2 A3 c1 c2 c3 st sf L w h1 h2 h3 hc false hr

theorem specIsTrackState_any (q f k : Int) (A1 A2 A3 : Option Addr) (c1 c2 c3 : Nat) (st sf : List Int) (L : List (List Int)) (w : World) (h1 : RI w w.heap.size A1 st) (h2 : RI w w.heap.size A2 sf) (h3 : RG w w.heap.size A3 L) (hc : st.length ≤ c1) (r1 r2 : Bool) (hr : trkOk q f k st sf = r2) (hs : (trkOk q f k st sf && stateB q k st sf L) = r1) :
    Calls Try.prog 21 #[.agg #[.int .i64 q, .int .i64 f, .int .i64 k, .slice A1 st.length c1, .slice A2 sf.length c2], .slice A3 L.length c3] w fun e w' => e = .returned (.tuple #[.bool r1, .bool r2]) ∧ Below w.heap.size w w' := by
  have hl := h1.1
  have hl2 := h2.1
  have HR := Lib.hid hr; have HS := Lib.hid hs
  clear hr hs
  go_enter Try.func21, Try.ntmps21
  go_wp2_with fail
  refine (trGood_any _ _ _ _ _ _ _ _ _ _ (h1.go (below1 _ _)) (h2.go (below1 _ _)) hc).mono ?_
  rintro e w2 ⟨rfl, hx⟩
  rw [HR.out]
  have hb := box_on (Below.refl _ _) hx (by simp)
  have qq := boxcells hb
  have hbw := (below1 w (.cells #[.int .i64 q, .int .i64 f, .int .i64 k, .slice A1 st.length c1, .slice A2 sf.length c2] 27)).trans (hb.mono (by omega))
  cases r2
  · have e1 : r1 = false := by rw [← HS.out, HR.out]; rfl
    subst e1
    go_wp2
    go_ret2
    exact ⟨rfl, hbw⟩
  · have e1 : stateB q k st sf L = r1 := by rw [← HS.out, HR.out]; rfl
    have HE := Lib.hid e1
    clear e1
    go_wp2_with fail
    refine (trState_any q f k A1 A2 A3 c1 c2 c3 st sf L _ (h1.go hbw) (h2.go hbw) ((h3.below hbw).more hbw.size) (trk_of HR.out)).mono ?_
    rintro e w3 ⟨rfl, hx3⟩
    rw [HE.out]
    go_wp2
    go_ret2
    exact ⟨rfl, hbw.trans (hx3.mono hbw.size)⟩

set_option maxRecDepth 100000 in
theorem implIsTrackState_any (q f k : Int) (A1 A2 A3 : Option Addr) (c1 c2 c3 : Nat) (st sf : List Int) (L : List (List Int)) (w : World) (h1 : RI w w.heap.size A1 st) (h2 : RI w w.heap.size A2 sf) (h3 : RG w w.heap.size A3 L) (hc : st.length ≤ c1) (r1 r2 : Bool) (hr : trkOk q f k st sf = r2) (hs : (trkOk q f k st sf && stateB q k st sf L) = r1) :
    Calls Try.prog 23 #[.agg #[.int .i64 q, .int .i64 f, .int .i64 k, .slice A1 st.length c1, .slice A2 sf.length c2], .slice A3 L.length c3] w fun e w' => e = .returned (.tuple #[.bool r1, .bool r2]) ∧ Below w.heap.size w w' := by
  have hl := h1.1
  have hl2 := h2.1
  have HR := Lib.hid hr; have HS := Lib.hid hs
  clear hr hs
  have z0 := zeroRing
  have z1 := zeroStand
  go_enter Try.func23, Try.ntmps23
  go_wp2_with fail
  refine (ringAndStand_all q f k A1 A2 A3 c1 c2 c3 st sf L _ (h1.go (below1 _ _)) (h2.go (below1 _ _)) ((h3.below (below1 _ _)).more (below1 _ _).size) hc r1 HS.out).mono ?_
  rintro e w2 ⟨RV, V, rfl, hRs, hR1, hx⟩
  have hbx := box_on (Below.refl _ _) hx (by simp)
  have hsz2 : w.heap.size + 1 ≤ w2.heap.size := by have := hbx.size; simpa using this
  clear hx
  go_wp2_with (first | (refine wpList_store_row rfl 62 (.tmp 6) _ rfl w2.heap.size rfl _ _ (RV) rfl ((Below.heap_alloc _ _ _ (by simp)).trans (heap_alloc_at _ _ _ rfl)) ?_ ?_ hR1 ?_; (rw [hRs, ring_size]); (rw [hRs]; exact sizeRing); intro w3 hC3 hg3 hs3; have N3 := (hg3.block (w2.heap.size + 1) (by simp) (by simp)).trans (heap_alloc_at _ _ _ (by simp))) | (refine wpList_store_row rfl 68 (.tmp 7) _ rfl (w2.heap.size + 1) rfl _ _ (standC (V)) rfl N3 ?_ ?_ (stand_one _) ?_; (simp only [stand_size]); (rw [stand_size]; exact sizeStand); intro w4 hC4 hg4 hs4; have hbx4 : Below (w.heap.size + 1) (w.alloc (.cells #[.int .i64 q, .int .i64 f, .int .i64 k, .slice A1 st.length c1, .slice A2 sf.length c2] 27)) w4 := (((hbx.alloc hsz2 _).alloc (by simp; omega) _).grown hg3 (by simp; omega) (fun k h => by injection h with h; omega)).grown hg4 (by have := hg3.size; simp at this; omega) (fun k h => by injection h with h; omega); have hb4 : Below w.heap.size w w4 := (below1 w _).trans (hbx4.mono (by omega)); have qq := boxcells hbx4))
  refine (implIsTrack_any _ _ _ _ _ _ _ _ _ _ (h1.go hb4) (h2.go hb4) hc).mono ?_
  rintro e w5 ⟨rfl, hx5⟩
  rw [HR.out]
  go_wp2
  go_ret2
  exact ⟨rfl, hb4.trans (hx5.mono hb4.size)⟩

theorem isTrackState_both (q f k : Int) (st sf : List Int) (L : List (List Int)) : ∃ (y ok : Bool),
    (∀ (A1 A2 : Option Addr) (c1 c2 : Nat) (A3 : Option Addr) (c3 : Nat) (w : World), RI w w.heap.size A1 st → RI w w.heap.size A2 sf → st.length ≤ c1 → RG w w.heap.size A3 L → Calls Try.prog 21 #[.agg #[.int .i64 q, .int .i64 f, .int .i64 k, .slice A1 st.length c1, .slice A2 sf.length c2], .slice A3 L.length c3] w fun e w' => e = .returned (.tuple #[.bool y, .bool ok]) ∧ Below w.heap.size w w') ∧
    (∀ (A1 A2 : Option Addr) (c1 c2 : Nat) (A3 : Option Addr) (c3 : Nat) (w : World), RI w w.heap.size A1 st → RI w w.heap.size A2 sf → st.length ≤ c1 → RG w w.heap.size A3 L → Calls Try.prog 23 #[.agg #[.int .i64 q, .int .i64 f, .int .i64 k, .slice A1 st.length c1, .slice A2 sf.length c2], .slice A3 L.length c3] w fun e w' => e = .returned (.tuple #[.bool y, .bool ok]) ∧ Below w.heap.size w w') :=
  ⟨_, _, fun A1 A2 c1 c2 A3 c3 w a b c d => specIsTrackState_any q f k A1 A2 A3 c1 c2 c3 st sf L w a b d c _ _ rfl rfl, fun A1 A2 c1 c2 A3 c3 w a b c d => implIsTrackState_any q f k A1 A2 A3 c1 c2 c3 st sf L w a b d c _ _ rfl rfl⟩
end Go.Proofs.Ytpecocmgclancaa
