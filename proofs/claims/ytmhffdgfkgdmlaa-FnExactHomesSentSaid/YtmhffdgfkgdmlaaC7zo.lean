/-
  Plays: the program's outingByAll.
-/
import Derived.Test.YtmhffdgfkgdmlaaC7zm
namespace Go.Proofs.Ytmhffdgfkgdmlaa
open Go.RowKit

set_option maxRecDepth 100000 in
set_option maxHeartbeats 1000000 in
theorem outingByAll_no (q f k : Int) (A1 A2 A3 : Option Addr) (c1 c2 c3 : Nat) (st sf : List Int) (n : Nat) (w : World) (h1 : RI w w.heap.size A1 st) (h2 : RI w w.heap.size A2 sf) (hc : st.length ≤ c1) (hn : n ≤ 1048576) (hz : (trkOk q f k st sf && decide (n ≤ 200)) = false) :
    Calls Try.prog 55 #[.agg #[.int .i64 q, .int .i64 f, .int .i64 k, .slice A1 st.length c1, .slice A2 sf.length c2], .slice A3 n c3] w fun e w' => e = .returned (.tuple #[.agg Try.zeroCells80, .bool false]) ∧ Below w.heap.size w w' := by
  have hl := h1.1
  have hl2 := h2.1
  have HZ := Lib.hid hz
  clear hz
  go_enter Try.func55, Try.ntmps55
  go_wp2_with fail
  refine (outingOf_no q f k A1 A2 A3 c1 c2 c3 st sf n _ (h1.go (below2 _ _ _)) (h2.go (below2 _ _ _)) hc hn HZ.out).mono ?_
  rintro e w2 ⟨rfl, hx⟩
  have hb2 : Below w.heap.size w w2 := (below2 _ _ _).trans (hx.mono (by simp; omega))
  have k2 : w2.heap[w.heap.size + 1]? = some (.cells Try.zeroCells80 80 (0, 0)) := (hx.block _ (by simp)).trans (heap_alloc_at _ _ _ (by simp))
  have hz2 := heap_lt k2
  go_wp2_with (refine wpList_store_row rfl 80 (.tmp 6) _ rfl w2.heap.size rfl _ _ Try.zeroCells80 rfl (heap_alloc_at w2 _ _ rfl) ?_ ?_ outZ_one ?_; rfl; (rw [outZ_size]; exact sizeOut); intro w3 hC3 hg3 hs3; have k3 := (hg3.block (w.heap.size + 1) (by simp; omega) (by simp; omega)).trans ((Below.heap_alloc _ _ _ hz2).trans k2))
  have hb3 : Below w.heap.size w w3 := (hb2.alloc hb2.size _).grown hg3 (by have := hb2.size; simp; omega) (fun k h => by cases h; exact hb2.size)
  refine wp_region_held_drew (S := (fun w' => w'.heap[w2.heap.size]? = some (.cells Try.zeroCells80 80 (0, 0)))) (by kernel_rfl) hC3 (fun hS => ?_)
  refine wpAnyH_take (i := 0) (oi := ⟨some 14, _, _, _, _, _⟩) rfl (by kernel_rfl) (by kernel_rfl) (by kernel_rfl) (fun _ _ _ h => h) (yields_load_row rfl 80 (.tmp 6) rfl w2.heap.size rfl _ _ _ _ (fun _ h => h) Try.underlying80 rfl (by rw [outZ_size]; exact sizeOut)) hS ?_
  try simp only [Act.put, List.setIfInBounds_toArray, List.set_cons_zero, List.set_cons_succ]
  refine wpAnyH_take (i := 1) (oi := ⟨some 15, _, _, _, _, _⟩) (v := ?va1) rfl (by kernel_rfl) (by kernel_rfl) (by kernel_rfl) (fun _ _ _ h => h) (Or.inl ⟨by rfl, ?ha1⟩) hS ?ra1
  case ha1 => (intro w' hSw; (try dsimp only at hSw); go_simp; (try with_reducible rfl))
  try simp only [Act.put, List.setIfInBounds_toArray, List.set_cons_zero, List.set_cons_succ]
  refine wpAnyH_take (i := 2) (oi := ⟨some 16, _, _, _, _, _⟩) (v := ?va2) rfl (by kernel_rfl) (by kernel_rfl) (by kernel_rfl) (fun _ _ _ h => h) (Or.inl ⟨by rfl, ?ha2⟩) hS ?ra2
  case ha2 => (intro w' hSw; (try dsimp only at hSw); go_simp; (try with_reducible rfl))
  try simp only [Act.put, List.setIfInBounds_toArray, List.set_cons_zero, List.set_cons_succ]
  refine wpAnyH_take (i := 3) (oi := ⟨some 17, _, _, _, _, _⟩) (v := undef) rfl (by kernel_rfl) (by kernel_rfl) (by kernel_rfl) (fun _ _ _ h => h) (Or.inr ⟨by rfl, rfl⟩) hS ?ra3
  try simp only [Act.put, List.setIfInBounds_toArray, List.set_cons_zero, List.set_cons_succ]
  refine wpAnyH_take (i := 4) (oi := ⟨some 18, _, _, _, _, _⟩) (v := undef) rfl (by kernel_rfl) (by kernel_rfl) (by kernel_rfl) (fun _ _ _ h => h) (Or.inr ⟨by rfl, rfl⟩) hS ?ra4
  try simp only [Act.put, List.setIfInBounds_toArray, List.set_cons_zero, List.set_cons_succ]
  refine wpAnyH_take (i := 5) (oi := ⟨some 19, _, _, _, _, _⟩) (v := undef) rfl (by kernel_rfl) (by kernel_rfl) (by kernel_rfl) (fun _ _ _ h => h) (Or.inr ⟨by rfl, rfl⟩) hS ?ra5
  try simp only [Act.put, List.setIfInBounds_toArray, List.set_cons_zero, List.set_cons_succ]
  refine wpAnyH_take (i := 6) (oi := ⟨some 20, _, _, _, _, _⟩) (v := undef) rfl (by kernel_rfl) (by kernel_rfl) (by kernel_rfl) (fun _ _ _ h => h) (Or.inr ⟨by rfl, rfl⟩) hS ?ra6
  try simp only [Act.put, List.setIfInBounds_toArray, List.set_cons_zero, List.set_cons_succ]
  refine wpAnyH_take (i := 7) (oi := ⟨some 21, _, _, _, _, _⟩) (v := undef) rfl (by kernel_rfl) (by kernel_rfl) (by kernel_rfl) (fun _ _ _ h => h) (Or.inr ⟨by rfl, rfl⟩) hS ?ra7
  try simp only [Act.put, List.setIfInBounds_toArray, List.set_cons_zero, List.set_cons_succ]
  refine wpAnyH_take (i := 8) (oi := ⟨some 22, _, _, _, _, _⟩) (v := ?va8) rfl (by kernel_rfl) (by kernel_rfl) (by kernel_rfl) (fun _ _ _ h => h) (Or.inl ⟨by rfl, ?ha8⟩) hS ?ra8
  case ha8 => (intro w' hSw; (try dsimp only at hSw); go_simp; (try with_reducible rfl))
  try simp only [Act.put, List.setIfInBounds_toArray, List.set_cons_zero, List.set_cons_succ]
  refine wpAnyH_ready (rs := [9]) (by kernel_rfl) (by simp) ?_
  refine cons_store_row (o := ⟨none, .store 80 (.tmp 4) (.tmp 14), 0, _, _, none⟩) rfl rfl 80 (.tmp 4) (.tmp 14) rfl (w.heap.size + 1) rfl 80 Try.zeroCells80 Try.zeroCells80 rfl k3 (by rw [outZ_size]) (by rw [outZ_size]; exact sizeOut) outZ_one ?_
  intro w9 h9 g9 s9
  have hb9 : Below w.heap.size w w9 := hb3.drew.grown g9 hb3.size (fun k h => by cases h; omega)
  have hS9 : w9.heap[w2.heap.size]? = some (.cells Try.zeroCells80 80 (0, 0)) := (g9.block _ (heap_lt hC3) (by simp; omega)).trans hC3
  refine ⟨hS9, ?_⟩
  try simp only [Act.put]
  refine wpAnyH_take (i := 10) (oi := ⟨some 5, _, _, _, _, _⟩) (v := ?va9) rfl (by kernel_rfl) (by kernel_rfl) (by kernel_rfl) (fun _ _ _ h => h) (Or.inl ⟨by rfl, ?ha9⟩) hS9 ?ra9
  case ha9 => (intro w' hSw; (try dsimp only at hSw); go_simp; (try with_reducible rfl))
  try simp only [Act.put, List.setIfInBounds_toArray, List.set_cons_zero, List.set_cons_succ]
  refine wpAnyH_done (by kernel_rfl) ?_ _
  go_wp2_with fail
  exact bodyPost_ret (v := .tuple #[.agg Try.zeroCells80, .bool false]) (results_cell_slot Try.results55 _ _ _ _ _ _ _ _ rfl rfl h9 Try.underlying80 rfl (by rw [outZ_size]; exact sizeOut)) rfl ⟨rfl, hb9⟩

set_option maxRecDepth 100000 in
set_option maxHeartbeats 1000000 in
theorem outingByAll_yes (q f k : Int) (A1 A2 A3 : Option Addr) (c1 c2 c3 : Nat) (st sf : List Int) (M : List (List Int)) (J : Nat) (w : World) (h1 : RI w w.heap.size A1 st) (h2 : RI w w.heap.size A2 sf) (h3 : RG w w.heap.size A3 M) (hc : st.length ≤ c1) (ht : trkOk q f k st sf = true) (hn : M.length ≤ 200) (hJ : Made q f k st sf M J)
    (r : Bool) (ha : J = M.length → r = true) (hb : J ≠ M.length → r = false) :
    Calls Try.prog 55 #[.agg #[.int .i64 q, .int .i64 f, .int .i64 k, .slice A1 st.length c1, .slice A2 sf.length c2], .slice A3 M.length c3] w fun e w' => e = .returned (.tuple #[.agg (outC q f k A1 st.length c1 (safeB sf) (plF q f k st sf M J) J (plS q f k st sf M J)), .bool r]) ∧ Below w.heap.size w w' := by
  have hl := h1.1
  have hl2 := h2.1
  have HT := Lib.hid ht; have HJ := Lib.hid hJ; have HA := Lib.hid ha; have HB := Lib.hid hb
  clear ht hJ ha hb
  obtain ⟨F, hF⟩ : ∃ F, F = plF q f k st sf M J := ⟨_, rfl⟩
  obtain ⟨s, hs⟩ : ∃ s : Int, s = (plS q f k st sf M J : Int) := ⟨_, rfl⟩
  rw [← hF, ← hs]
  have HF := Lib.hid hF; have HS := Lib.hid hs
  clear hF hs
  go_enter Try.func55, Try.ntmps55
  go_wp2_with fail
  refine (outingOf_yes q f k A1 A2 A3 c1 c2 c3 st sf M J _ (h1.go (below2 _ _ _)) (h2.go (below2 _ _ _)) ((h3.below (below2 _ _ _)).more (by simp; omega)) hc HT.out hn HJ.out).mono ?_
  rintro e w2 ⟨rfl, hx⟩
  rw [← HF.out, ← HS.out]
  clear HF HS
  have hb2 : Below w.heap.size w w2 := (below2 _ _ _).trans (hx.mono (by simp; omega))
  have k2 : w2.heap[w.heap.size + 1]? = some (.cells Try.zeroCells80 80 (0, 0)) := (hx.block _ (by simp)).trans (heap_alloc_at _ _ _ (by simp))
  have hz2 := heap_lt k2
  by_cases hJn : J = M.length
  · obtain rfl := HA.out hJn
    subst hJn
    go_wp2_with (refine wpList_store_row rfl 80 (.tmp 6) _ rfl w2.heap.size rfl _ _ (outC q f k A1 st.length c1 (safeB sf) F (M.length : Int) s) rfl (heap_alloc_at w2 _ _ rfl) ?_ ?_ out_one ?_; (rw [outZ_size, out_size]); (rw [out_size]; exact sizeOut); intro w3 hC3 hg3 hs3; have k3 := (hg3.block (w.heap.size + 1) (by simp; omega) (by simp; omega)).trans ((Below.heap_alloc _ _ _ hz2).trans k2))
    have hb3 : Below w.heap.size w w3 := (hb2.alloc hb2.size _).grown hg3 (by have := hb2.size; simp; omega) (fun k h => by cases h; exact hb2.size)
    refine wp_region_held_drew (S := (fun w' => w'.heap[w2.heap.size]? = some (.cells (outC q f k A1 st.length c1 (safeB sf) F (M.length : Int) s) 80 (0, 0)) ∧ w'.cell? ⟨w2.heap.size, 80, none⟩ = some (.int .i64 (M.length : Int)))) (by kernel_rfl) ⟨hC3, OA.made (t := 80) hC3⟩ (fun hS => ?_)
    refine wpAnyH_take (i := 0) (oi := ⟨some 14, _, _, _, _, _⟩) rfl (by kernel_rfl) (by kernel_rfl) (by kernel_rfl) (fun _ _ _ h => h) (yields_load_row rfl 80 (.tmp 6) rfl w2.heap.size rfl _ _ _ _ (fun _ h => h.1) Try.underlying80 rfl (by rw [out_size]; exact sizeOut)) hS ?_
    try simp only [Act.put, List.setIfInBounds_toArray, List.set_cons_zero, List.set_cons_succ]
    refine wpAnyH_take (i := 1) (oi := ⟨some 15, _, _, _, _, _⟩) (v := ?vb1) rfl (by kernel_rfl) (by kernel_rfl) (by kernel_rfl) (fun _ _ _ h => h) (Or.inl ⟨by rfl, ?hb1⟩) hS ?rb1
    case hb1 => (intro w' hSw; (try dsimp only at hSw); go_simp; (try with_reducible rfl))
    try simp only [Act.put, List.setIfInBounds_toArray, List.set_cons_zero, List.set_cons_succ]
    refine wpAnyH_take (i := 2) (oi := ⟨some 16, _, _, _, _, _⟩) (v := ?vb2) rfl (by kernel_rfl) (by kernel_rfl) (by kernel_rfl) (fun _ _ _ h => h) (Or.inl ⟨by rfl, ?hb2⟩) hS ?rb2
    case hb2 => (intro w' hSw; (try dsimp only at hSw); go_simp; (try with_reducible rfl))
    try simp only [Act.put, List.setIfInBounds_toArray, List.set_cons_zero, List.set_cons_succ]
    refine wpAnyH_take (i := 3) (oi := ⟨some 17, _, _, _, _, _⟩) (v := ?vb3) rfl (by kernel_rfl) (by kernel_rfl) (by kernel_rfl) (fun _ _ _ h => h) (Or.inl ⟨by rfl, ?hb3⟩) hS ?rb3
    case hb3 => (intro w' hSw; (try dsimp only at hSw); go_simp; (try with_reducible rfl))
    try simp only [Act.put, List.setIfInBounds_toArray, List.set_cons_zero, List.set_cons_succ]
    refine wpAnyH_take (i := 4) (oi := ⟨some 18, _, _, _, _, _⟩) (v := ?vb4) rfl (by kernel_rfl) (by kernel_rfl) (by kernel_rfl) (fun _ _ _ h => h) (Or.inl ⟨by rfl, ?hb4⟩) hS ?rb4
    case hb4 => (intro w' hSw; (try dsimp only at hSw); go_simp; (try with_reducible rfl))
    try simp only [Act.put, List.setIfInBounds_toArray, List.set_cons_zero, List.set_cons_succ]
    refine wpAnyH_take (i := 5) (oi := ⟨some 19, _, _, _, _, _⟩) (v := ?vb5) rfl (by kernel_rfl) (by kernel_rfl) (by kernel_rfl) (fun _ _ _ h => h) (Or.inl ⟨by rfl, ?hb5⟩) hS ?rb5
    case hb5 => (intro w' hSw; (try dsimp only at hSw); go_simp; (try with_reducible rfl))
    try simp only [Act.put, List.setIfInBounds_toArray, List.set_cons_zero, List.set_cons_succ]
    refine wpAnyH_take (i := 6) (oi := ⟨some 20, _, _, _, _, _⟩) (v := ?vb6) rfl (by kernel_rfl) (by kernel_rfl) (by kernel_rfl) (fun _ _ _ h => h) (Or.inl ⟨by rfl, ?hb6⟩) hS ?rb6
    case hb6 => (intro w' hSw; (try dsimp only at hSw); go_simp; (try with_reducible rfl))
    try simp only [Act.put, List.setIfInBounds_toArray, List.set_cons_zero, List.set_cons_succ]
    refine wpAnyH_take (i := 7) (oi := ⟨some 21, _, _, _, _, _⟩) (v := ?vb7) rfl (by kernel_rfl) (by kernel_rfl) (by kernel_rfl) (fun _ _ _ h => h) (Or.inl ⟨by rfl, ?hb7⟩) hS ?rb7
    case hb7 => (intro w' hSw; (try dsimp only at hSw); go_simp; (try with_reducible rfl))
    try simp only [Act.put, List.setIfInBounds_toArray, List.set_cons_zero, List.set_cons_succ]
    refine wpAnyH_take (i := 8) (oi := ⟨some 22, _, _, _, _, _⟩) (v := ?vb8) rfl (by kernel_rfl) (by kernel_rfl) (by kernel_rfl) (fun _ _ _ h => h) (Or.inl ⟨by rfl, ?hb8⟩) hS ?rb8
    case hb8 => (intro w' hSw; (try dsimp only at hSw); go_simp; (try with_reducible rfl))
    try simp only [Act.put, List.setIfInBounds_toArray, List.set_cons_zero, List.set_cons_succ]
    refine wpAnyH_ready (rs := [9]) (by kernel_rfl) (by simp) ?_
    refine cons_store_row (o := ⟨none, .store 80 (.tmp 4) (.tmp 14), 0, _, _, none⟩) rfl rfl 80 (.tmp 4) (.tmp 14) rfl (w.heap.size + 1) rfl 80 Try.zeroCells80 (outC q f k A1 st.length c1 (safeB sf) F (M.length : Int) s) rfl k3 (by rw [outZ_size, out_size]) (by rw [out_size]; exact sizeOut) out_one ?_
    intro w9 h9 g9 s9
    have hb9 : Below w.heap.size w w9 := hb3.drew.grown g9 hb3.size (fun k h => by cases h; omega)
    have h90 : w9.heap[w2.heap.size]? = some (.cells (outC q f k A1 st.length c1 (safeB sf) F (M.length : Int) s) 80 (0, 0)) := (g9.block _ (heap_lt hC3) (by simp; omega)).trans hC3
    have hS9 : w9.heap[w2.heap.size]? = some (.cells (outC q f k A1 st.length c1 (safeB sf) F (M.length : Int) s) 80 (0, 0)) ∧ w9.cell? ⟨w2.heap.size, 80, none⟩ = some (.int .i64 (M.length : Int)) := ⟨h90, OA.made (t := 80) h90⟩
    refine ⟨hS9, ?_⟩
    try simp only [Act.put]
    refine wpAnyH_take (i := 10) (oi := ⟨some 5, _, _, _, _, _⟩) (v := ?vb9) rfl (by kernel_rfl) (by kernel_rfl) (by kernel_rfl) (fun _ _ _ h => h) (Or.inl ⟨by rfl, ?hb9⟩) hS9 ?rb9
    case hb9 => (intro w' hSw; (try dsimp only at hSw); go_simp; (try with_reducible rfl))
    try simp only [Act.put, List.setIfInBounds_toArray, List.set_cons_zero, List.set_cons_succ]
    refine wpAnyH_done (by kernel_rfl) ?_ _
    go_wp2_with fail
    exact bodyPost_ret (v := .tuple #[.agg (outC q f k A1 st.length c1 (safeB sf) F (M.length : Int) s), .bool true]) (results_cell_slot Try.results55 _ _ _ _ _ _ _ _ rfl rfl h9 Try.underlying80 rfl (by rw [out_size]; exact sizeOut)) rfl ⟨rfl, hb9⟩
  · obtain rfl := HB.out hJn
    have hJi : ¬ (J : Int) = (M.length : Int) := by omega
    have hJb : ((J : Int) == (M.length : Int)) = false := by simpa using hJi
    go_wp2_with (refine wpList_store_row rfl 80 (.tmp 6) _ rfl w2.heap.size rfl _ _ (outC q f k A1 st.length c1 (safeB sf) F (J : Int) s) rfl (heap_alloc_at w2 _ _ rfl) ?_ ?_ out_one ?_; (rw [outZ_size, out_size]); (rw [out_size]; exact sizeOut); intro w3 hC3 hg3 hs3; have k3 := (hg3.block (w.heap.size + 1) (by simp; omega) (by simp; omega)).trans ((Below.heap_alloc _ _ _ hz2).trans k2))
    have hb3 : Below w.heap.size w w3 := (hb2.alloc hb2.size _).grown hg3 (by have := hb2.size; simp; omega) (fun k h => by cases h; exact hb2.size)
    refine wp_region_held_drew (S := (fun w' => w'.heap[w2.heap.size]? = some (.cells (outC q f k A1 st.length c1 (safeB sf) F (J : Int) s) 80 (0, 0)) ∧ w'.cell? ⟨w2.heap.size, 80, none⟩ = some (.int .i64 (J : Int)))) (by kernel_rfl) ⟨hC3, OA.made (t := 80) hC3⟩ (fun hS => ?_)
    refine wpAnyH_take (i := 0) (oi := ⟨some 14, _, _, _, _, _⟩) rfl (by kernel_rfl) (by kernel_rfl) (by kernel_rfl) (fun _ _ _ h => h) (yields_load_row rfl 80 (.tmp 6) rfl w2.heap.size rfl _ _ _ _ (fun _ h => h.1) Try.underlying80 rfl (by rw [out_size]; exact sizeOut)) hS ?_
    try simp only [Act.put, List.setIfInBounds_toArray, List.set_cons_zero, List.set_cons_succ]
    refine wpAnyH_take (i := 1) (oi := ⟨some 15, _, _, _, _, _⟩) (v := ?vc1) rfl (by kernel_rfl) (by kernel_rfl) (by kernel_rfl) (fun _ _ _ h => h) (Or.inl ⟨by rfl, ?hc1⟩) hS ?rc1
    case hc1 => (intro w' hSw; (try dsimp only at hSw); go_simp; (try with_reducible rfl))
    try simp only [Act.put, List.setIfInBounds_toArray, List.set_cons_zero, List.set_cons_succ]
    refine wpAnyH_take (i := 2) (oi := ⟨some 16, _, _, _, _, _⟩) (v := ?vc2) rfl (by kernel_rfl) (by kernel_rfl) (by kernel_rfl) (fun _ _ _ h => h) (Or.inl ⟨by rfl, ?hc2⟩) hS ?rc2
    case hc2 => (intro w' hSw; (try dsimp only at hSw); go_simp; (try with_reducible rfl))
    try simp only [Act.put, List.setIfInBounds_toArray, List.set_cons_zero, List.set_cons_succ]
    refine wpAnyH_take (i := 3) (oi := ⟨some 17, _, _, _, _, _⟩) (v := ?vc3) rfl (by kernel_rfl) (by kernel_rfl) (by kernel_rfl) (fun _ _ _ h => h) (Or.inl ⟨by rfl, ?hc3⟩) hS ?rc3
    case hc3 => (intro w' hSw; (try dsimp only at hSw); go_simp; (try with_reducible rfl))
    try simp only [Act.put, List.setIfInBounds_toArray, List.set_cons_zero, List.set_cons_succ]
    refine wpAnyH_take (i := 4) (oi := ⟨some 18, _, _, _, _, _⟩) (v := ?vc4) rfl (by kernel_rfl) (by kernel_rfl) (by kernel_rfl) (fun _ _ _ h => h) (Or.inl ⟨by rfl, ?hc4⟩) hS ?rc4
    case hc4 => (intro w' hSw; (try dsimp only at hSw); go_simp; (try with_reducible rfl))
    try simp only [Act.put, List.setIfInBounds_toArray, List.set_cons_zero, List.set_cons_succ]
    refine wpAnyH_take (i := 5) (oi := ⟨some 19, _, _, _, _, _⟩) (v := ?vc5) rfl (by kernel_rfl) (by kernel_rfl) (by kernel_rfl) (fun _ _ _ h => h) (Or.inl ⟨by rfl, ?hc5⟩) hS ?rc5
    case hc5 => (intro w' hSw; (try dsimp only at hSw); go_simp; (try with_reducible rfl))
    try simp only [Act.put, List.setIfInBounds_toArray, List.set_cons_zero, List.set_cons_succ]
    refine wpAnyH_take (i := 6) (oi := ⟨some 20, _, _, _, _, _⟩) (v := ?vc6) rfl (by kernel_rfl) (by kernel_rfl) (by kernel_rfl) (fun _ _ _ h => h) (Or.inl ⟨by rfl, ?hc6⟩) hS ?rc6
    case hc6 => (intro w' hSw; (try dsimp only at hSw); go_simp; (try with_reducible rfl))
    try simp only [Act.put, List.setIfInBounds_toArray, List.set_cons_zero, List.set_cons_succ]
    refine wpAnyH_take (i := 7) (oi := ⟨some 21, _, _, _, _, _⟩) (v := ?vc7) rfl (by kernel_rfl) (by kernel_rfl) (by kernel_rfl) (fun _ _ _ h => h) (Or.inl ⟨by rfl, ?hc7⟩) hS ?rc7
    case hc7 => (intro w' hSw; (try dsimp only at hSw); go_simp; (try with_reducible rfl))
    try simp only [Act.put, List.setIfInBounds_toArray, List.set_cons_zero, List.set_cons_succ]
    refine wpAnyH_take (i := 8) (oi := ⟨some 22, _, _, _, _, _⟩) (v := ?vc8) rfl (by kernel_rfl) (by kernel_rfl) (by kernel_rfl) (fun _ _ _ h => h) (Or.inl ⟨by rfl, ?hc8⟩) hS ?rc8
    case hc8 => (intro w' hSw; (try dsimp only at hSw); go_simp; (try with_reducible rfl))
    try simp only [Act.put, List.setIfInBounds_toArray, List.set_cons_zero, List.set_cons_succ]
    refine wpAnyH_ready (rs := [9]) (by kernel_rfl) (by simp) ?_
    refine cons_store_row (o := ⟨none, .store 80 (.tmp 4) (.tmp 14), 0, _, _, none⟩) rfl rfl 80 (.tmp 4) (.tmp 14) rfl (w.heap.size + 1) rfl 80 Try.zeroCells80 (outC q f k A1 st.length c1 (safeB sf) F (J : Int) s) rfl k3 (by rw [outZ_size, out_size]) (by rw [out_size]; exact sizeOut) out_one ?_
    intro w9 h9 g9 s9
    have hb9 : Below w.heap.size w w9 := hb3.drew.grown g9 hb3.size (fun k h => by cases h; omega)
    have h90 : w9.heap[w2.heap.size]? = some (.cells (outC q f k A1 st.length c1 (safeB sf) F (J : Int) s) 80 (0, 0)) := (g9.block _ (heap_lt hC3) (by simp; omega)).trans hC3
    have hS9 : w9.heap[w2.heap.size]? = some (.cells (outC q f k A1 st.length c1 (safeB sf) F (J : Int) s) 80 (0, 0)) ∧ w9.cell? ⟨w2.heap.size, 80, none⟩ = some (.int .i64 (J : Int)) := ⟨h90, OA.made (t := 80) h90⟩
    refine ⟨hS9, ?_⟩
    try simp only [Act.put]
    refine wpAnyH_take (i := 10) (oi := ⟨some 5, _, _, _, _, _⟩) (v := ?vc9) rfl (by kernel_rfl) (by kernel_rfl) (by kernel_rfl) (fun _ _ _ h => h) (Or.inl ⟨by rfl, ?hc9⟩) hS9 ?rc9
    case hc9 => (intro w' hSw; (try dsimp only at hSw); go_simp; (try with_reducible rfl))
    try simp only [Act.put, List.setIfInBounds_toArray, List.set_cons_zero, List.set_cons_succ]
    refine wpAnyH_done (by kernel_rfl) ?_ _
    go_wp2_with fail
    exact bodyPost_ret (v := .tuple #[.agg (outC q f k A1 st.length c1 (safeB sf) F (J : Int) s), .bool false]) (results_cell_slot Try.results55 _ _ _ _ _ _ _ _ rfl rfl h9 Try.underlying80 rfl (by rw [out_size]; exact sizeOut)) rfl ⟨rfl, hb9⟩
end Go.Proofs.Ytmhffdgfkgdmlaa
