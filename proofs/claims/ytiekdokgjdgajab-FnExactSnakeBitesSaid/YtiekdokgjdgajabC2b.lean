/-
  Walks: next.
-/
import Derived.Test.YtiekdokgjdgajabC2a
namespace Go.Proofs.Ytiekdokgjdgajab
open Go.RowKit

set_option maxRecDepth 100000 in
set_option maxHeartbeats 400000 in
theorem next_any (g : Nat) (s f o : Int) (js : List (Int × Int)) (wt : Int) (q : Int) (mt : Bool) (face : Int) (w : World) (hC : CV w g s f o (fun i => jumpOf js i)) (hw : w.cell? ⟨g, 104, none⟩ = some (.int .i64 wt))
    (hs0 : 1 ≤ s) (hs : s ≤ 100) (ho0 : 0 ≤ o) (ho : o ≤ 2) (h0 : 0 ≤ q) (h1 : q ≤ s) (he : jumpOf js s = s) (hq : jumpOf js q = q) (hf0 : 1 ≤ face) (hf : face ≤ 8) :
    Calls Try.prog 80 #[.pointer (some ⟨g, 0, none⟩), spotV q mt, .int .i64 face] w fun e w' => e = .returned (spotV (thrown s o js q face) (mt || (thrown s o js q face == wt))) ∧ Below w.heap.size w w' := by
  have HE := Lib.hid he; have HQ := Lib.hid hq; clear he hq
  have hg := cell_lt hw
  unfold spotV
  cases mt
  · go_enter Try.func80, Try.ntmps80
    go_wp2_with fail
    have hB := below2 w (.cells #[.int .i64 q, .bool false] 82) (.cells #[.int .i64 0, .bool false] 82)
    have b0 : ((w.alloc (.cells #[.int .i64 q, .bool false] 82)).alloc (.cells #[.int .i64 0, .bool false] 82)).cell? ⟨w.heap.size, 0, none⟩ = some (.int .i64 q) := (cell_of_row _ _ 0 _ _ _ ((Below.heap_alloc _ _ _ (by simp)).trans (heap_alloc_at _ _ _ rfl))).trans rfl
    have hC2 : CV _ g s f o (fun i => jumpOf js i) := hC.below hB hg
    have hw2 := keepcell hB hw
    go_quiet (first | (go_at_call 83; refine Calls.quiet_of (behind_any _ _ _ _ _ _ _ _ (hC2.drewN _) hs0 hs ho0 ho h0 h1 HE.out HQ.out hf0 hf)))
    go_wp2
    have e9 := heap_set _ (w.heap.size + 1) 1 _ _ (.bool (thrown s o js q face == wt)) (heap_set (((w.alloc (.cells #[.int .i64 q, .bool false] 82)).alloc (.cells #[.int .i64 0, .bool false] 82)).drewN nq) (w.heap.size + 1) 0 #[.int .i64 0, .bool false] 82 (.int .i64 (thrown s o js q face)) (heap_alloc_at _ _ _ (by simp)))
    exact bodyPost_ret (v := .agg #[.int .i64 (thrown s o js q face), (.bool (thrown s o js q face == wt))]) (results_cell1 Try.results80 _ _ _ _ _ _ _ rfl e9 Try.underlying82 rfl sizeSpot) rfl ⟨by simp, ((drewB hB nq).setCell (by simp) _).setCell (by simp) _⟩
  · go_enter Try.func80, Try.ntmps80
    go_wp2_with fail
    have hB := below2 w (.cells #[.int .i64 q, .bool true] 82) (.cells #[.int .i64 0, .bool false] 82)
    have b0 : ((w.alloc (.cells #[.int .i64 q, .bool true] 82)).alloc (.cells #[.int .i64 0, .bool false] 82)).cell? ⟨w.heap.size, 0, none⟩ = some (.int .i64 q) := (cell_of_row _ _ 0 _ _ _ ((Below.heap_alloc _ _ _ (by simp)).trans (heap_alloc_at _ _ _ rfl))).trans rfl
    have hC2 : CV _ g s f o (fun i => jumpOf js i) := hC.below hB hg
    have hw2 := keepcell hB hw
    go_quiet (first | (go_at_call 83; refine Calls.quiet_of (behind_any _ _ _ _ _ _ _ _ (hC2.drewN _) hs0 hs ho0 ho h0 h1 HE.out HQ.out hf0 hf)))
    go_wp2
    have e9 := heap_set _ (w.heap.size + 1) 1 _ _ (.bool true) (heap_set (((w.alloc (.cells #[.int .i64 q, .bool true] 82)).alloc (.cells #[.int .i64 0, .bool false] 82)).drewN nq) (w.heap.size + 1) 0 #[.int .i64 0, .bool false] 82 (.int .i64 (thrown s o js q face)) (heap_alloc_at _ _ _ (by simp)))
    exact bodyPost_ret (v := .agg #[.int .i64 (thrown s o js q face), (.bool true)]) (results_cell1 Try.results80 _ _ _ _ _ _ _ rfl e9 Try.underlying82 rfl sizeSpot) rfl ⟨by simp, ((drewB hB nq).setCell (by simp) _).setCell (by simp) _⟩
end Go.Proofs.Ytiekdokgjdgajab
