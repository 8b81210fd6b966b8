/-
  Contracts of the laws' helpers on desks: sizes, copies, comparisons.
-/
import Derived.Test.YtjngiinfpoappaaL1
namespace Go.Proofs.Ytjngiinfpoappaa
open Go.RowKit

theorem szDesk_any (s f o sq : Int) (A : Option Addr) (n c : Nat) (left : Int) (w : World) (hn : n ≤ maxLen) (h0 : 0 ≤ left) (h1 : left ≤ 1048576) :
    Calls Try.prog 49 #[.agg #[.int .i64 s, .int .i64 f, .int .i64 o, .slice A n c, .int .i64 sq], .int .i64 left] w fun e w' => e = .returned (.int .i64 (if left < n then -1 else left - n)) ∧ Below w.heap.size w w' := by
  have hn' := hn
  unfold maxLen at hn'
  go_enter Try.func49, Try.ntmps49
  by_cases h : left < n
  · go_wp2_with (go_at_call 79; refine (szBoard_any _ _ _ _ _ _ _ _ hn h0 h1).mono ?_; rintro e w1 ⟨rfl, hx⟩)
    go_ret
    exact ⟨ret_int rfl, (below1 _ _).trans (hx.mono (by simp))⟩
  · have h2 : ¬ left - n < 0 := by omega
    go_wp2_with (go_at_call 79; refine (szBoard_any _ _ _ _ _ _ _ _ hn h0 h1).mono ?_; rintro e w1 ⟨rfl, hx⟩)
    go_ret
    exact ⟨ret_int rfl, (below1 _ _).trans (hx.mono (by simp))⟩

set_option maxHeartbeats 400000 in
theorem eqDesk_any (s f o sq s' f' o' sq' : Int) (A A' : Option Addr) (c c' : Nat) (js js' : List (Int × Int)) (w : World) (hj : RJ w w.heap.size A js) (hj' : RJ w w.heap.size A' js') :
    Calls Try.prog 53 #[.agg #[.int .i64 s, .int .i64 f, .int .i64 o, .slice A js.length c, .int .i64 sq], .agg #[.int .i64 s', .int .i64 f', .int .i64 o', .slice A' js'.length c', .int .i64 sq']] w fun e w' => e = .returned (.bool ((s == s' && f == f' && o == o' && js == js') && sq == sq')) ∧ Below w.heap.size w w' := by
  have hl := hj.1
  have hl' := hj'.1
  cases hb : (s == s' && f == f' && o == o' && js == js')
  · go_enter Try.func53, Try.ntmps53
    go_wp2_with (go_at_call 30; refine (eqBoard_any _ _ _ _ _ _ _ _ _ _ _ _ _ (hj.go (below2 _ _ _)) (hj'.go (below2 _ _ _))).mono ?_; rintro e w2 ⟨rfl, hb2⟩; rw [hb])
    all_goals go_ret
    exact ⟨ret_bool (by simp), (below2 _ _ _).trans (hb2.mono (by simp; omega))⟩
  · go_enter Try.func53, Try.ntmps53
    go_wp2_with fail
    refine (eqBoard_any _ _ _ _ _ _ _ _ _ _ _ _ _ (hj.go (below2 _ _ _)) (hj'.go (below2 _ _ _))).mono ?_
    rintro e w2 ⟨rfl, hb2⟩
    rw [hb]
    clear hb
    have B1 := (hb2.block w.heap.size (by simp; omega)).trans ((Below.heap_alloc _ _ _ (by simp)).trans (heap_alloc_at _ _ _ rfl))
    have B2 := (hb2.block (w.heap.size + 1) (by simp)).trans (heap_alloc_at _ _ _ (by simp))
    have q1 := fun i => cell_of_row w2 w.heap.size i _ _ _ B1
    have q2 := fun i => cell_of_row w2 (w.heap.size + 1) i _ _ _ B2
    have hx := (below2 w _ _).trans (hb2.mono (by simp; omega))
    clear B1 B2 hb2
    go_wp2
    all_goals go_ret
    all_goals exact ⟨ret_bool (by simp_all), hx⟩

set_option maxHeartbeats 400000 in
theorem toDesk_any (s f o sq : Int) (A : Option Addr) (c : Nat) (js : List (Int × Int)) (w : World) (hj : RJ w w.heap.size A js) :
    Calls Try.prog 51 #[.agg #[.int .i64 s, .int .i64 f, .int .i64 o, .slice A js.length c, .int .i64 sq]] w fun e w' => ∃ g, e = .returned (.agg #[.int .i64 s, .int .i64 f, .int .i64 o, .slice (some ⟨g, 0, none⟩) js.length js.length, .int .i64 sq]) ∧ w.heap.size ≤ g ∧ RowJ w' g 101 js.length (fun k => js.getD k (0, 0)) ∧ Below w.heap.size w w' := by
  have hl := hj.1
  go_enter Try.func51, Try.ntmps51
  go_wp2_with fail
  refine (toBoard_any _ _ _ _ _ _ _ (hj.go (below3 _ _ _ _))).mono ?_
  rintro e w1 ⟨g, rfl, hg, hrow, hx⟩
  simp only [World.size_alloc] at hg hx
  have B0 := (hx.block w.heap.size (by omega)).trans ((Below.heap_alloc _ _ _ (by simp; omega)).trans ((Below.heap_alloc _ _ _ (by simp)).trans (heap_alloc_at _ _ _ rfl)))
  have B1 := (hx.block (w.heap.size + 1) (by omega)).trans ((Below.heap_alloc _ _ _ (by simp)).trans (heap_alloc_at _ _ _ (by simp)))
  have B2 := (hx.block (w.heap.size + 1 + 1) (by omega)).trans (heap_alloc_at _ _ _ (by simp))
  have q0 := fun i => cell_of_row w1 w.heap.size i _ _ _ B0
  have q1 := fun i => cell_of_row w1 (w.heap.size + 1) i _ _ _ B1
  have q2 := fun i => cell_of_row w1 (w.heap.size + 1 + 1) i _ _ _ B2
  have f1 := fun i => frozen_row (i := i) B1
  have f2 := fun i => frozen_row (i := i) B2
  clear B0 B1 B2
  have z1 : w.heap.size + 1 + 1 + 1 ≤ w1.heap.size := by have := hx.size; simpa using this
  go_wp2
  have hx0 := (below3 w _ _ _).trans (hx.mono (by omega))
  exact bodyPost_ret (v := .agg #[.int .i64 s, .int .i64 f, .int .i64 o, .slice (some ⟨g, 0, none⟩) js.length js.length, .int .i64 sq]) (by simp [results, Try.results51, go_sem, q1]) rfl
    ⟨g, rfl, by omega, by repeat (first | with_reducible exact hrow | refine RowJ.far ?_ (by dsimp only; omega) _), by repeat (first | with_reducible exact hx0 | refine Below.setCell ?_ (by dsimp only; omega) _)⟩
end Go.Proofs.Ytjngiinfpoappaa
