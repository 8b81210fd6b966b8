/-
  Plays: the program's PlayTrack.
-/
import Derived.Test.YtmhffdgfkgdmlaaC7zo
import Derived.Test.YtmhffdgfkgdmlaaC7dv
import Derived.Test.YtmhffdgfkgdmlaaC7f
namespace Go.Proofs.Ytmhffdgfkgdmlaa
open Go.RowKit

set_option maxRecDepth 100000 in
set_option maxHeartbeats 1000000 in
theorem implPlayTrack_no (q f k : Int) (A1 A2 A3 : Option Addr) (c1 c2 c3 : Nat) (st sf : List Int) (n : Nat) (w : World) (h1 : RI w w.heap.size A1 st) (h2 : RI w w.heap.size A2 sf) (hc : st.length ≤ c1) (hn : n ≤ 1048576) (hz : (trkOk q f k st sf && decide (n ≤ 200)) = false) :
    Calls Try.prog 25 #[.agg #[.int .i64 q, .int .i64 f, .int .i64 k, .slice A1 st.length c1, .slice A2 sf.length c2], .slice A3 n c3] w (GridBack w 0 (fun _ => k.toNat) (fun _ _ => 0) false) := by
  have hl := h1.1
  have hl2 := h2.1
  have HZ := Lib.hid hz
  clear hz
  go_enter Try.func25, Try.ntmps25
  go_wp2_with fail
  refine (outingByAll_no q f k A1 A2 A3 c1 c2 c3 st sf n _ (h1.go (Below.alloc (Below.refl _ w) (Nat.le_refl _) _)) (h2.go (Below.alloc (Below.refl _ w) (Nat.le_refl _) _)) hc hn HZ.out).mono ?_
  rintro e w2 ⟨rfl, hx⟩
  have hb2 : Below w.heap.size w w2 := (Below.alloc (Below.refl _ w) (Nat.le_refl _) _).trans (hx.mono (by simp))
  go_wp2_with (refine wpList_store_row rfl 80 (.tmp 6) _ rfl w2.heap.size rfl _ _ Try.zeroCells80 rfl (heap_alloc_at w2 _ _ rfl) ?_ ?_ outZ_one ?_; rfl; (rw [outZ_size]; exact sizeOut); intro w3 hC3 hg3 hs3)
  exact bodyPost_ret (v := .tuple #[.slice none 0 0, .bool false]) (by simp [results, Try.results25]) rfl ⟨none, 0, fun _ => 0, fun _ => 0, rfl, Grid.nil _ _ _ _ _ _ _ _, (hb2.alloc hb2.size _).grown hg3 (by have := hb2.size; simp; omega) (fun k h => by cases h; exact hb2.size)⟩

set_option maxRecDepth 100000 in
set_option maxHeartbeats 1000000 in
theorem implPlayTrack_yes (q f k : Int) (A1 A2 A3 : Option Addr) (c1 c2 c3 : Nat) (st sf : List Int) (M : List (List Int)) (J : Nat) (w : World) (h1 : RI w w.heap.size A1 st) (h2 : RI w w.heap.size A2 sf) (h3 : RG w w.heap.size A3 M) (hc : st.length ≤ c1) (ht : trkOk q f k st sf = true) (hn : M.length ≤ 200) (hJ : Made q f k st sf M J)
    (r : Bool) (m : Nat) (G : Nat → Nat → Int) (ha : J = M.length → r = true ∧ m = st.length ∧ G = plF q f k st sf M J) (hb : J ≠ M.length → r = false ∧ m = 0 ∧ G = fun _ _ => 0) :
    Calls Try.prog 25 #[.agg #[.int .i64 q, .int .i64 f, .int .i64 k, .slice A1 st.length c1, .slice A2 sf.length c2], .slice A3 M.length c3] w (GridBack w m (fun _ => k.toNat) G r) := by
  have hT := trk_of ht
  have hk1 := hT.k1
  have hk4 := hT.k4
  have hn4 := hT.n4
  clear hT
  have hl := h1.1
  have hl2 := h2.1
  have hle := hJ.le
  have HT := Lib.hid ht; have HJ := Lib.hid hJ; have HA := Lib.hid ha; have HB := Lib.hid hb
  clear ht hJ ha hb
  go_enter Try.func25, Try.ntmps25
  go_wp2_with fail
  refine (outingByAll_yes q f k A1 A2 A3 c1 c2 c3 st sf M J _ (h1.go (Below.alloc (Below.refl _ w) (Nat.le_refl _) _)) (h2.go (Below.alloc (Below.refl _ w) (Nat.le_refl _) _)) ((h3.below (Below.alloc (Below.refl _ w) (Nat.le_refl _) _)).more (by simp)) hc HT.out hn HJ.out r (fun h => (HA.out h).1) (fun h => (HB.out h).1)).mono ?_
  rintro e w2 ⟨rfl, hx⟩
  have hb2 : Below w.heap.size w w2 := (Below.alloc (Below.refl _ w) (Nat.le_refl _) _).trans (hx.mono (by simp))
  obtain ⟨F, hF⟩ : ∃ F, F = plF q f k st sf M J := ⟨_, rfl⟩
  obtain ⟨s, hs⟩ : ∃ s : Int, s = (plS q f k st sf M J : Int) := ⟨_, rfl⟩
  rw [← hF, ← hs]
  have HF := Lib.hid hF
  clear hF hs
  by_cases hJn : J = M.length
  · obtain ⟨rfl, rfl, hG⟩ := HA.out hJn
    rw [← HF.out] at hG
    have HG := Lib.hid hG
    clear hG HF
    subst hJn
    go_wp2_with (first | (refine wpList_store_row rfl 80 (.tmp 6) _ rfl w2.heap.size rfl _ _ (outC q f k A1 st.length c1 (safeB sf) F (M.length : Int) s) rfl (heap_alloc_at w2 _ _ rfl) ?_ ?_ out_one ?_; (rw [outZ_size, out_size]); (rw [out_size]; exact sizeOut); intro w3 hC3 hg3 hs3; have hO3 : OA w3 w2.heap.size 80 q f k A1 st.length c1 (safeB sf) F (M.length : Int) s := hC3) | (refine wpList_load_part rfl 78 (.tmp 17) rfl w2.heap.size 64 rfl (standC F) _ (fun i hi => hO3.stand (by rw [stand_size] at hi; exact hi)) Try.underlying78 rfl ?_ ?_; (rw [stand_size]; exact sizeStandV)))
    have hb3 : Below w.heap.size w w3 := (hb2.alloc hb2.size _).grown hg3 (by have := hb2.size; simp; omega) (fun k h => by cases h; exact hb2.size)
    refine (stateOf_anyV w2.heap.size q f k A1 st.length c1 (safeB sf) _ hO3.rp F hn4 hk1 hk4).mono ?_
    rintro e w4 ⟨g2, Bk, C, rfl, hGr, hx4⟩
    have hb3s := hb3.size
    go_wp2_with fail
    exact bodyPost_ret (v := .tuple #[.slice (some ⟨g2, 0, none⟩) st.length st.length, .bool true]) (by simp [results, Try.results25]) rfl ⟨_, _, Bk, C, rfl, by rw [HG.out]; exact hGr.mono hb3s, hb3.trans (hx4.mono hb3s)⟩
  · obtain ⟨rfl, rfl, rfl⟩ := HB.out hJn
    go_wp2_with (refine wpList_store_row rfl 80 (.tmp 6) _ rfl w2.heap.size rfl _ _ (outC q f k A1 st.length c1 (safeB sf) F (J : Int) s) rfl (heap_alloc_at w2 _ _ rfl) ?_ ?_ out_one ?_; (rw [outZ_size, out_size]); (rw [out_size]; exact sizeOut); intro w3 hC3 hg3 hs3; have hO3 : OA w3 w2.heap.size 80 q f k A1 st.length c1 (safeB sf) F (J : Int) s := hC3)
    have hb3 : Below w.heap.size w w3 := (hb2.alloc hb2.size _).grown hg3 (by have := hb2.size; simp; omega) (fun k h => by cases h; exact hb2.size)
    exact bodyPost_ret (v := .tuple #[.slice none 0 0, .bool false]) (by simp [results, Try.results25]) rfl ⟨none, 0, fun _ => 0, fun _ => 0, rfl, Grid.nil _ _ _ _ _ _ _ _, hb3⟩
end Go.Proofs.Ytmhffdgfkgdmlaa
