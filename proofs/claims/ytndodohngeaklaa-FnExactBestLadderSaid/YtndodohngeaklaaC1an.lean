/-
  The program's course with a jump more: withJump.
-/
import Derived.Test.YtndodohngeaklaaC1d
import Derived.Test.YtndodohngeaklaaWB
namespace Go.Proofs.Ytndodohngeaklaa
open Go.RowKit

set_option maxRecDepth 100000 in
set_option maxHeartbeats 1000000 in
theorem withJump_any (s f o b : Int) (G : Nat → Int) (an : Nat) (han : an < 101) (w : World) :
    Calls Try.prog 49 #[.agg (crsCells s f o G), .agg #[.int .i64 (an : Int), .int .i64 b]] w fun e w' =>
      e = .returned (.agg (crsCells s f o (fun i => if i = an then b else G i))) ∧ Below w.heap.size w w' := by
  have ia : (an : Int) < 101 := by omega
  have ia0 : (0 : Int) ≤ (an : Int) := by omega
  go_enter Try.func49, Try.ntmps49
  have hC0 : CA (((w.alloc (.cells (crsCells s f o G) 58)).alloc (.cells #[.int .i64 (an : Int), .int .i64 b] 38)).alloc (.cells Try.zeroCells58 58)) w.heap.size s f o G := (Below.heap_alloc _ _ _ (by simp; omega)).trans ((Below.heap_alloc _ _ _ (by simp)).trans (heap_alloc_at _ _ _ rfl))
  have d1 := (cell_of_row _ _ (3 + an) _ _ _ hC0).trans (crs_at s f o _ an han)
  have d2 := frozen_row (i := 3 + an) hC0
  have zs : Try.zeroCells58.size = 104 := by rw [courseZero, crs_size]
  obtain ⟨W3, hW3⟩ : ∃ W3, W3 = ((w.alloc (.cells ((crsCells s f o G).setIfInBounds (3 + an) (.int .i64 b)) 58)).alloc (.cells #[.int .i64 (an : Int), .int .i64 b] 38)).alloc (.cells Try.zeroCells58 58) := ⟨_, rfl⟩
  have hC1 : (((w.alloc (.cells ((crsCells s f o G).setIfInBounds (3 + an) (.int .i64 b)) 58)).alloc (.cells #[.int .i64 (an : Int), .int .i64 b] 38)).alloc (.cells Try.zeroCells58 58)).heap[w.heap.size]? = some (.cells (crsCells s f o (fun i => if i = an then b else G i)) 58 (0, 0)) := by
    rw [← crs_set s f o G an han b]
    exact (Below.heap_alloc _ _ _ (by simp; omega)).trans ((Below.heap_alloc _ _ _ (by simp)).trans (heap_alloc_at _ _ _ rfl))
  have hZ1 : (((w.alloc (.cells ((crsCells s f o G).setIfInBounds (3 + an) (.int .i64 b)) 58)).alloc (.cells #[.int .i64 (an : Int), .int .i64 b] 38)).alloc (.cells Try.zeroCells58 58)).heap[w.heap.size + 1 + 1]? = some (.cells Try.zeroCells58 58 (0, 0)) := heap_alloc_at _ _ _ (by simp)
  clear hW3
  go_wp2_with (first | (refine wpList_load_row rfl 58 (.tmp 2) rfl w.heap.size rfl _ _ _ _ hC1 Try.underlying58 rfl ?_ ?_; (rw [crs_size]; exact sizeCourse)) | (refine wpList_store_row rfl 58 (.tmp 4) (.tmp 11) rfl (w.heap.size + 1 + 1) rfl _ _ _ rfl hZ1 ?_ ?_ (crs_one _ _ _ _) ?_; (rw [crs_size, zs]); (rw [crs_size]; exact sizeCourse); intro w4 hC4 hg4 hs4))
  exact bodyPost_ret (v := .agg (crsCells s f o (fun i => if i = an then b else G i))) (results_cell1k Try.results49 _ _ _ _ _ _ _ rfl hC4 Try.underlying58 rfl (by rw [crs_size]; exact sizeCourse)) rfl
    ⟨rfl, (below3 _ _ _ _).grown hg4 (by simp; omega) (fun k h => by cases h; omega)⟩
end Go.Proofs.Ytndodohngeaklaa
