/-
  Races: the program's first way that wins: the closure, slices.IndexFunc over ways.
-/
import Derived.Test.YtknclgfjoajldabC4m
import Derived.Deep.RegionHeld3
namespace Go.Proofs.Ytknclgfjoajldab
open Go.RowKit

set_option maxRecDepth 100000 in
set_option maxHeartbeats 1000000 in
theorem wonClo_any (g c1 c2 : Nat) (s f o : Int) (G : Nat → Int) (m : Bool) (u v x y t fc be who : Int) (w : World) (hN : NV w g s f o G m u v) (hgw : g < w.heap.size) (h1 : c1 < w.heap.size) (h2 : c2 < w.heap.size) (k1 : w.cell? ⟨c1, 0, none⟩ = some (.pointer (some ⟨g, 0, none⟩))) (k2 : w.cell? ⟨c2, 0, none⟩ = some (.int .i64 who)) :
    Calls Try.prog 70 #[.agg #[.int .i64 x, .int .i64 y, .int .i64 t, .int .i64 fc, .int .i64 be], .pointer (some ⟨c1, 0, none⟩), .pointer (some ⟨c2, 0, none⟩)] w fun e w' => e = .returned (.bool (wonR s x y == who)) ∧ Below w.heap.size w w' := by
  obtain ⟨W0, hW0⟩ : ∃ W0, W0 = w.alloc (.cells #[.int .i64 x, .int .i64 y, .int .i64 t, .int .i64 fc, .int .i64 be] 108) := ⟨_, rfl⟩
  have h0 : Below w.heap.size w W0 := by rw [hW0]; exact below1 _ _
  have kb : W0.heap[w.heap.size]? = some (.cells #[.int .i64 x, .int .i64 y, .int .i64 t, .int .i64 fc, .int .i64 be] 108 (0, 0)) := by rw [hW0]; exact heap_alloc_at _ _ _ rfl
  have z0 : w.heap.size < W0.heap.size := heap_lt kb
  have j1 := (bcell h0 h1).trans k1
  have j2 := (bcell h0 h2).trans k2
  have qb := fun i => cell_of_row W0 w.heap.size i _ _ _ kb
  have HN0 := Lib.hid (hN.below h0 hgw)
  have HW := Lib.hid hW0
  clear hW0 hN k1 k2
  go_enter Try.func70, Try.ntmps70
  go_wp2_with fail
  rw [← HW.out]
  refine wp_region_held_drew (S := (fun w' => w'.cell? ⟨c1, 0, none⟩ = some (.pointer (some ⟨g, 0, none⟩)) ∧ w'.cell? ⟨c2, 0, none⟩ = some (.int .i64 who) ∧ (∀ i, w'.cell? ⟨w.heap.size, i, none⟩ = #[.int .i64 x, .int .i64 y, .int .i64 t, .int .i64 fc, .int .i64 be][i]?))) (by kernel_rfl) ⟨j1, j2, qb⟩ (fun hS => ?_)
  refine wpAnyH_take (i := 0) (oi := ⟨some 5, _, _, _, _, _⟩) (v := ?va1) rfl (by kernel_rfl) (by kernel_rfl) (by kernel_rfl) (fun _ _ _ h => h) (Or.inl ⟨by rfl, ?ha1⟩) hS ?ra1
  case ha1 => (intro w' hSw; (try dsimp only at hSw); go_simp; (try with_reducible rfl))
  try simp only [Act.put, List.setIfInBounds_toArray, List.set_cons_zero, List.set_cons_succ]
  refine wpAnyH_take (i := 1) (oi := ⟨some 6, _, _, _, _, _⟩) (v := ?va2) rfl (by kernel_rfl) (by kernel_rfl) (by kernel_rfl) (fun _ _ _ h => h) (Or.inl ⟨by rfl, ?ha2⟩) hS ?ra2
  case ha2 => (intro w' hSw; (try dsimp only at hSw); go_simp; (try with_reducible rfl))
  try simp only [Act.put, List.setIfInBounds_toArray, List.set_cons_zero, List.set_cons_succ]
  refine wpAnyH_take (i := 2) (oi := ⟨some 7, _, _, _, _, _⟩) (v := ?va3) rfl (by kernel_rfl) (by kernel_rfl) (by kernel_rfl) (fun _ _ _ h => h) (Or.inl ⟨by rfl, ?ha3⟩) hS ?ra3
  case ha3 => (intro w' hSw; (try dsimp only at hSw); go_simp; (try with_reducible rfl))
  try simp only [Act.put, List.setIfInBounds_toArray, List.set_cons_zero, List.set_cons_succ]
  refine wpAnyH_take (i := 4) (oi := ⟨some 9, _, _, _, _, _⟩) (v := ?va4) rfl (by kernel_rfl) (by kernel_rfl) (by kernel_rfl) (fun _ _ _ h => h) (Or.inl ⟨by rfl, ?ha4⟩) hS ?ra4
  case ha4 => (intro w' hSw; (try dsimp only at hSw); go_simp; (try with_reducible rfl))
  try simp only [Act.put, List.setIfInBounds_toArray, List.set_cons_zero, List.set_cons_succ]
  refine wpAnyH_ready (rs := [3]) (by kernel_rfl) (by simp) ?_
  refine AllReadyH.cons (o := ⟨some 8, _, _, _, _, _⟩) rfl (fun K' hK' => ?_) AllReadyH.nil
  go_simp
  go_at_call 71
  refine (winner_any g s f o _ _ _ _ _ _ _ (HN0.out.below (Below.refl _ _).drew (by omega)) (show g < W0.heap.size by omega)).mono ?_
  rintro e w5 ⟨rfl, hx5⟩
  have h5 : Below W0.heap.size W0 w5 := (Below.refl _ _).drew.trans hx5
  refine hK'.out _ _ ⟨(bcell h5 (by omega)).trans j1, (bcell h5 (by omega)).trans j2, fun i => (bcell h5 z0).trans (qb i)⟩ (fun _ => ?_)
  clear hK' K'
  try simp only [Act.put, List.setIfInBounds_toArray, List.set_cons_zero, List.set_cons_succ]
  refine wpAnyH_take (i := 5) (oi := ⟨some 10, _, _, _, _, _⟩) (v := ?va5) rfl (by kernel_rfl) (by kernel_rfl) (by kernel_rfl) (fun _ _ _ h => h) (Or.inl ⟨by rfl, ?ha5⟩) ⟨(bcell h5 (by omega)).trans j1, (bcell h5 (by omega)).trans j2, fun i => (bcell h5 z0).trans (qb i)⟩ ?ra5
  case ha5 => (intro w' hSw; (try dsimp only at hSw); go_simp; (try with_reducible rfl))
  try simp only [Act.put, List.setIfInBounds_toArray, List.set_cons_zero, List.set_cons_succ]
  refine wpAnyH_ready (rs := [6]) (by kernel_rfl) (by simp) ?_
  refine AllReadyH.cons (o := ⟨some 4, _, _, _, _, _⟩) rfl (fun K' hK' => ?_) AllReadyH.nil
  go_simp
  refine hK'.out _ _ ⟨(bcell h5 (by omega)).trans j1, (bcell h5 (by omega)).trans j2, fun i => (bcell h5 z0).trans (qb i)⟩ (fun _ => ?_)
  clear hK' K'
  try simp only [Act.put, List.setIfInBounds_toArray, List.set_cons_zero, List.set_cons_succ]
  refine wpAnyH_done (by kernel_rfl) ?_ _
  go_wp2_with fail
  go_ret
  exact ⟨rfl, h0.trans (h5.mono (by omega))⟩
end Go.Proofs.Ytknclgfjoajldab
