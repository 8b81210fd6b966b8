/-
  Plays: the program's MoveThatCannot.
-/
import Derived.Test.YtmhffdgfkgdmlaaC7zm
namespace Go.Proofs.Ytmhffdgfkgdmlaa
open Go.RowKit

set_option maxRecDepth 100000 in
set_option maxHeartbeats 1000000 in
theorem implMoveThatCannot_no (q f k : Int) (A1 A2 A3 : Option Addr) (c1 c2 c3 : Nat) (st sf : List Int) (n : Nat) (w : World) (h1 : RI w w.heap.size A1 st) (h2 : RI w w.heap.size A2 sf) (hc : st.length ≤ c1) (hn : n ≤ 1048576) (hz : (trkOk q f k st sf && decide (n ≤ 200)) = false) :
    Calls Try.prog 27 #[.agg #[.int .i64 q, .int .i64 f, .int .i64 k, .slice A1 st.length c1, .slice A2 sf.length c2], .slice A3 n c3] w fun e w' => e = .returned (.tuple #[.int .i64 0, .bool false]) ∧ Below w.heap.size w w' := by
  have hl := h1.1
  have hl2 := h2.1
  have HZ := Lib.hid hz
  clear hz
  go_enter Try.func27, Try.ntmps27
  go_wp2_with fail
  refine (outingOf_no q f k A1 A2 A3 c1 c2 c3 st sf n _ (h1.go (Below.alloc (Below.refl _ w) (Nat.le_refl _) _)) (h2.go (Below.alloc (Below.refl _ w) (Nat.le_refl _) _)) hc hn HZ.out).mono ?_
  rintro e w2 ⟨rfl, hx⟩
  have hb2 : Below w.heap.size w w2 := (Below.alloc (Below.refl _ w) (Nat.le_refl _) _).trans (hx.mono (by simp))
  go_wp2_with (refine wpList_store_row rfl 80 (.tmp 6) _ rfl w2.heap.size rfl _ _ Try.zeroCells80 rfl (heap_alloc_at w2 _ _ rfl) ?_ ?_ outZ_one ?_; rfl; (rw [outZ_size]; exact sizeOut); intro w3 hC3 hg3 hs3)
  exact bodyPost_ret (v := .tuple #[.int .i64 0, .bool false]) (by simp [results, Try.results27]) rfl ⟨rfl, (hb2.alloc hb2.size _).grown hg3 (by have := hb2.size; simp; omega) (fun k h => by cases h; exact hb2.size)⟩

set_option maxRecDepth 100000 in
set_option maxHeartbeats 1000000 in
theorem implMoveThatCannot_yes (q f k : Int) (A1 A2 A3 : Option Addr) (c1 c2 c3 : Nat) (st sf : List Int) (M : List (List Int)) (J : Nat) (w : World) (h1 : RI w w.heap.size A1 st) (h2 : RI w w.heap.size A2 sf) (h3 : RG w w.heap.size A3 M) (hc : st.length ≤ c1) (ht : trkOk q f k st sf = true) (hn : M.length ≤ 200) (hJ : Made q f k st sf M J)
    (v : Int) (r : Bool) (ha : J = M.length → v = 0 ∧ r = false) (hb : J ≠ M.length → v = (J : Int) ∧ r = true) :
    Calls Try.prog 27 #[.agg #[.int .i64 q, .int .i64 f, .int .i64 k, .slice A1 st.length c1, .slice A2 sf.length c2], .slice A3 M.length c3] w fun e w' => e = .returned (.tuple #[.int .i64 v, .bool r]) ∧ Below w.heap.size w w' := by
  have hl := h1.1
  have hl2 := h2.1
  have hle := hJ.le
  have HT := Lib.hid ht; have HJ := Lib.hid hJ; have HA := Lib.hid ha; have HB := Lib.hid hb
  clear ht hJ ha hb
  go_enter Try.func27, Try.ntmps27
  go_wp2_with fail
  refine (outingOf_yes q f k A1 A2 A3 c1 c2 c3 st sf M J _ (h1.go (Below.alloc (Below.refl _ w) (Nat.le_refl _) _)) (h2.go (Below.alloc (Below.refl _ w) (Nat.le_refl _) _)) ((h3.below (Below.alloc (Below.refl _ w) (Nat.le_refl _) _)).more (by simp)) hc HT.out hn HJ.out).mono ?_
  rintro e w2 ⟨rfl, hx⟩
  have hb2 : Below w.heap.size w w2 := (Below.alloc (Below.refl _ w) (Nat.le_refl _) _).trans (hx.mono (by simp))
  obtain ⟨F, hF⟩ : ∃ F, F = plF q f k st sf M J := ⟨_, rfl⟩
  obtain ⟨s, hs⟩ : ∃ s : Int, s = (plS q f k st sf M J : Int) := ⟨_, rfl⟩
  rw [← hF, ← hs]
  clear hF hs
  by_cases hJn : J = M.length
  · obtain ⟨rfl, rfl⟩ := HA.out hJn
    subst hJn
    go_wp2_with (refine wpList_store_row rfl 80 (.tmp 6) _ rfl w2.heap.size rfl _ _ (outC q f k A1 st.length c1 (safeB sf) F (M.length : Int) s) rfl (heap_alloc_at w2 _ _ rfl) ?_ ?_ out_one ?_; (rw [outZ_size, out_size]); (rw [out_size]; exact sizeOut); intro w3 hC3 hg3 hs3; have hO3 : OA w3 w2.heap.size 80 q f k A1 st.length c1 (safeB sf) F (M.length : Int) s := hC3; have c3 := hO3.made)
    exact bodyPost_ret (v := .tuple #[.int .i64 0, .bool false]) (by simp [results, Try.results27]) rfl ⟨rfl, (hb2.alloc hb2.size _).grown hg3 (by have := hb2.size; simp; omega) (fun k h => by cases h; exact hb2.size)⟩
  · obtain ⟨rfl, rfl⟩ := HB.out hJn
    have hJi : ¬ (J : Int) = (M.length : Int) := by omega
    go_wp2_with (refine wpList_store_row rfl 80 (.tmp 6) _ rfl w2.heap.size rfl _ _ (outC q f k A1 st.length c1 (safeB sf) F (J : Int) s) rfl (heap_alloc_at w2 _ _ rfl) ?_ ?_ out_one ?_; (rw [outZ_size, out_size]); (rw [out_size]; exact sizeOut); intro w3 hC3 hg3 hs3; have hO3 : OA w3 w2.heap.size 80 q f k A1 st.length c1 (safeB sf) F (J : Int) s := hC3; have c3 := hO3.made)
    exact bodyPost_ret (v := .tuple #[.int .i64 (J : Int), .bool true]) (by simp [results, Try.results27]) rfl ⟨rfl, (hb2.alloc hb2.size _).grown hg3 (by have := hb2.size; simp; omega) (fun k h => by cases h; exact hb2.size)⟩
end Go.Proofs.Ytmhffdgfkgdmlaa
