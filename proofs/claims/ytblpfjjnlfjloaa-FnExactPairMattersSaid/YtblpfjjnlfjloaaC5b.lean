/-
  Pairs: the course of a pair.
-/
import Derived.Test.YtblpfjjnlfjloaaC5a
namespace Go.Proofs.Ytblpfjjnlfjloaa
open Go.RowKit

theorem run_buildPB (w : World) (s f : Int) : (Instr.build 108 #[(0, .int .i64 s), (1, .int .i64 f)]).run Try.prog w = .ok (.agg #[.int .i64 s, .int .i64 f, .int .i64 0, .slice none 0 0]) w := by kernel_rfl
theorem pair_good {s f a b : Int} (h : pairOk s f a b = true) : good ⟨s, f, 0, []⟩ = true := by
  have := pairOk_iff.1 h
  simp [good, sizes, jumpsOk, inB]
  omega

set_option maxRecDepth 100000 in
theorem courseOfPair_yes (s f a b : Int) (w : World) (hp : pairOk s f a b = true) :
    Calls Try.prog 56 #[.int .i64 s, .int .i64 f, .int .i64 a, .int .i64 b] w fun e w' =>
      e = .returned (.tuple #[.agg (crsCells s f 0 (fun i => jumpOf [] i)), .bool true]) ∧ Below w.heap.size w w' := by
  have hg := pair_good hp
  have hbd := run_buildPB
  have hn : ∀ W : World, RJ W W.heap.size none [] := fun W => ⟨by simp, fun j hj => by simp at hj, .inl rfl⟩
  have HP := Lib.hid hp; have HG := Lib.hid hg; clear hp hg
  go_enter Try.func56, Try.ntmps56
  go_wp2_with fail
  refine (implIsPair_any s f a b _).mono ?_
  rintro e w0 ⟨rfl, rfl⟩
  rw [HP.out]
  go_wp2_with fail
  refine (courseOf_yes s f 0 none 0 [] _ (hn _) HG.out).mono ?_
  rintro e w1 ⟨rfl, hx⟩
  rw [courseZero] at hx
  have hC : CA w1 w.heap.size 0 0 0 (fun _ => 0) := (hx.block _ (by simp)).trans (heap_alloc_at _ _ _ (by simp))
  have hb : Below w.heap.size w w1 := (below1 _ _).trans (hx.mono (by simp))
  go_wp2_with (refine wpList_store_row rfl 58 (.tmp 8) (.tmp 21) rfl w.heap.size rfl _ _ _ rfl hC ?_ ?_ (crs_one _ _ _ _) ?_; (rw [crs_size, crs_size]); (rw [crs_size]; exact sizeCourse); intro w4 hC4 hg4 hs4)
  exact bodyPost_ret (v := .tuple #[.agg (crsCells s f 0 (fun i => jumpOf [] i)), .bool true]) (results_cell_slot Try.results56 _ _ _ _ _ _ _ _ rfl rfl hC4 Try.underlying58 rfl (by rw [crs_size]; exact sizeCourse)) rfl
    ⟨rfl, hb.grown hg4 (by have := hx.size; simp at this; omega) (fun k h => by cases h; omega)⟩

set_option maxRecDepth 100000 in
theorem courseOfPair_no (s f a b : Int) (w : World) (hp : pairOk s f a b = false) :
    Calls Try.prog 56 #[.int .i64 s, .int .i64 f, .int .i64 a, .int .i64 b] w fun e w' =>
      e = .returned (.tuple #[.agg (crsCells 0 0 0 (fun _ => 0)), .bool false]) ∧ Below w.heap.size w w' := by
  have hbd := run_buildCourse0
  have HP := Lib.hid hp; clear hp
  go_enter Try.func56, Try.ntmps56
  go_wp2_with fail
  refine (implIsPair_any s f a b _).mono ?_
  rintro e w0 ⟨rfl, rfl⟩
  rw [HP.out]
  have hC : CA (w.alloc (.cells Try.zeroCells58 58)) w.heap.size 0 0 0 (fun _ => 0) := by rw [courseZero]; exact heap_alloc_at _ _ _ rfl
  have zs : Try.zeroCells58.size = 104 := by rw [courseZero, crs_size]
  have z1 : ∀ u ∈ Try.zeroCells58.toList, u.oneCell' = true := by rw [courseZero]; exact crs_one _ _ _ _
  go_wp2_with (refine wpList_store_row rfl 58 (.tmp 8) _ rfl w.heap.size rfl _ _ Try.zeroCells58 rfl hC ?_ ?_ z1 ?_; (rw [zs, crs_size]); (rw [zs, sizeCourse]); intro w4 hC4 hg4 hs4)
  rw [courseZero] at hC4
  exact bodyPost_ret (v := .tuple #[.agg (crsCells 0 0 0 (fun _ => 0)), .bool false]) (results_cell_slot Try.results56 _ _ _ _ _ _ _ _ rfl rfl hC4 Try.underlying58 rfl (by rw [crs_size]; exact sizeCourse)) rfl
    ⟨rfl, (below1 _ _).grown hg4 (by simp) (fun k h => by cases h; omega)⟩
end Go.Proofs.Ytblpfjjnlfjloaa
