/-
  Tracks: the program's ringAndStand at large; IsTrackState on both sides; the model's trPlayer, trMove, trAsked.
-/
import Derived.Test.YtbheegdmamcgaabC7m
import Derived.Test.YtbheegdmamcgaabC7g
namespace Go.Proofs.Ytbheegdmamcgaab
open Go.RowKit

theorem ringAndStand_all (q f k : Int) (A1 A2 A3 : Option Addr) (c1 c2 c3 : Nat) (st sf : List Int) (L : List (List Int)) (w : World) (h1 : RI w w.heap.size A1 st) (h2 : RI w w.heap.size A2 sf) (h3 : RG w w.heap.size A3 L) (hc : st.length ≤ c1) (r : Bool) (hr : (trkOk q f k st sf && stateB q k st sf L) = r) :
    Calls Try.prog 62 #[.agg #[.int .i64 q, .int .i64 f, .int .i64 k, .slice A1 st.length c1, .slice A2 sf.length c2], .slice A3 L.length c3] w fun e w' => ∃ (RV : Array Value) (V : Nat → Nat → Int), e = .returned (.tuple #[.agg RV, .agg (standC V), .bool r]) ∧ RV.size = 64 ∧ (∀ u ∈ RV.toList, u.oneCell' = true) ∧ Below w.heap.size w w' := by
  cases hz : trkOk q f k st sf
  · rw [hz, Bool.false_and] at hr
    subst hr
    refine (ringAndStand_out q f k A1 A2 A3 c1 c2 c3 st sf L w h1 h2 hc hz).mono ?_
    rintro e w' ⟨rfl, hx⟩
    exact ⟨_, _, rfl, ring_size, ring_one, hx⟩
  · rw [hz, Bool.true_and] at hr
    refine (ringAndStand_in q f k A1 A2 A3 c1 c2 c3 st sf L w h1 h2 h3 hc hz).mono ?_
    rintro e w' ⟨V, rfl, _, hx⟩
    rw [hr]
    exact ⟨_, V, rfl, ring_size, ring_one, hx⟩
theorem ringAndStand_fail (q f k : Int) (A1 A2 A3 : Option Addr) (c1 c2 c3 : Nat) (st sf : List Int) (L : List (List Int)) (w : World) (h1 : RI w w.heap.size A1 st) (h2 : RI w w.heap.size A2 sf) (h3 : RG w w.heap.size A3 L) (hc : st.length ≤ c1) (hr : (trkOk q f k st sf && stateB q k st sf L) = false) :
    Calls Try.prog 62 #[.agg #[.int .i64 q, .int .i64 f, .int .i64 k, .slice A1 st.length c1, .slice A2 sf.length c2], .slice A3 L.length c3] w fun e w' => ∃ (RV : Array Value) (V : Nat → Nat → Int), e = .returned (.tuple #[.agg RV, .agg (standC V), .bool false]) ∧ RV.size = 64 ∧ (∀ u ∈ RV.toList, u.oneCell' = true) ∧ Below w.heap.size w w' :=
  ringAndStand_all q f k A1 A2 A3 c1 c2 c3 st sf L w h1 h2 h3 hc false hr



end Go.Proofs.Ytbheegdmamcgaab
