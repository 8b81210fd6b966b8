/-
  Puzzles: the program's clues and puzzles: limits, the check that raises, the door that recovers.
-/
import Derived.Test.YteogfondnpfklaaC9a
import Derived.Defers
import Derived.Recover
import Derived.WalkLawsBesides
import Derived.RegionTactic
import Derived.Deep.CutRange
namespace Go.Proofs.Yteogfondnpfklaa
open Go.RowKit

theorem isWithin9_any (n lo hi : Int) (w : World) : Calls Try.prog 55 #[.int .i64 n, .int .i64 lo, .int .i64 hi] w fun e w' => e = .returned (.bool (inB n lo hi)) ∧ w = w' := by
  go_enter Try.func55, Try.ntmps55
  by_cases h : lo ≤ n
  · have h1 : decide (lo ≤ n) = true := by simpa using h
    go_wp2
    go_ret
    exact ⟨ret_bool (by simp [inB, h1]), rfl⟩
  · have h1 : decide (lo ≤ n) = false := by simpa using h
    go_wp2
    go_ret
    exact ⟨ret_bool (by simp [inB, h1]), rfl⟩
theorem areThere_any (q f : Int) (w : World) : Calls Try.prog 96 #[.agg #[.int .i64 q, .int .i64 f]] w fun e w' => e = .returned (.bool (szB q f)) ∧ Below w.heap.size w w' := by
  cases h : inB q 1 10
  all_goals
    go_enter Try.func96, Try.ntmps96
    go_wp2_with (go_at_call 55; refine (isWithin9_any _ _ _ _).mono ?_; rintro e w' ⟨rfl, rfl⟩)
    go_ret
    exact ⟨ret_bool (by rw [szB, h]; rfl), below1 _ _⟩

def chainQ (k a b c : Int) : List PanicEntry := [{ v := .iface 44 (.agg #[.int .i64 k, .int .i64 a, .int .i64 b, .int .i64 c]), recovered := false }]
/-- What limits hands back. -/
def LimBack (q f k a b c : Int) (w : World) (e : Ending) (w' : World) : Prop :=
  Below w.heap.size w w' ∧ ((0 ≤ k ∧ k ≤ 5 ∧ e = .returned (.tuple #[.agg #[.int .i64 0, .int .i64 0, .int .i64 (leB k), .int .i64 0], .agg #[.int .i64 0, .int .i64 (moA q k), .int .i64 (moB f k), .int .i64 (moC q k)]])) ∨
    ((k < 0 ∨ 5 < k) ∧ e = .panicked (chainQ k a b c)))

set_option maxRecDepth 100000 in
theorem limits_out (q f k a b c : Int) (w : World) (h : k < 0 ∨ 5 < k) : Calls Try.prog 143 #[.agg #[.int .i64 q, .int .i64 f], .agg #[.int .i64 k, .int .i64 a, .int .i64 b, .int .i64 c]] w fun e w' => e = .panicked (chainQ k a b c) ∧ Below w.heap.size w w' := by
  have g0 : (k == 0) = false := beq_eq_false_iff_ne.2 (by omega)
  have g1 : (k == 1) = false := beq_eq_false_iff_ne.2 (by omega)
  have g2 : (k == 2) = false := beq_eq_false_iff_ne.2 (by omega)
  have g3 : (k == 3) = false := beq_eq_false_iff_ne.2 (by omega)
  have g4 : (k == 4) = false := beq_eq_false_iff_ne.2 (by omega)
  have g5 : (k == 5) = false := beq_eq_false_iff_ne.2 (by omega)
  go_enter Try.func143, Try.ntmps143
  go_wp2
  exact ⟨rfl, ⟨rfl, (below3 _ _ _ _).alloc (by simp; omega) _⟩⟩
set_option maxRecDepth 100000 in
set_option maxHeartbeats 1000000 in
theorem limits0 (q f a b c : Int) (w : World) : Calls Try.prog 143 #[.agg #[.int .i64 q, .int .i64 f], .agg #[.int .i64 0, .int .i64 a, .int .i64 b, .int .i64 c]] w fun e w' => e = .returned (.tuple #[.agg #[.int .i64 0, .int .i64 0, .int .i64 (leB 0), .int .i64 0], .agg #[.int .i64 0, .int .i64 (moA q 0), .int .i64 (moB f 0), .int .i64 (moC q 0)]]) ∧ Below w.heap.size w w' := by
  go_enter Try.func143, Try.ntmps143
  go_wp2
  all_goals go_region
  all_goals go_wp2
  all_goals exact bodyPost_ret (v := .tuple #[.agg #[.int .i64 0, .int .i64 0, .int .i64 (leB 0), .int .i64 0], .agg #[.int .i64 0, .int .i64 (moA q 0), .int .i64 (moB f 0), .int .i64 (moC q 0)]]) (by simp [results, Try.results143, go_sem, leB, moA, moB, moC]) rfl ⟨rfl, ((below3 _ _ _ _).alloc (by simp; omega) _).drew⟩
set_option maxRecDepth 100000 in
set_option maxHeartbeats 1000000 in
theorem limits1 (q f a b c : Int) (w : World) : Calls Try.prog 143 #[.agg #[.int .i64 q, .int .i64 f], .agg #[.int .i64 1, .int .i64 a, .int .i64 b, .int .i64 c]] w fun e w' => e = .returned (.tuple #[.agg #[.int .i64 0, .int .i64 0, .int .i64 (leB 1), .int .i64 0], .agg #[.int .i64 0, .int .i64 (moA q 1), .int .i64 (moB f 1), .int .i64 (moC q 1)]]) ∧ Below w.heap.size w w' := by
  go_enter Try.func143, Try.ntmps143
  go_wp2
  go_region
  all_goals go_wp2
  all_goals go_region
  all_goals go_wp2
  all_goals exact bodyPost_ret (v := .tuple #[.agg #[.int .i64 0, .int .i64 0, .int .i64 (leB 1), .int .i64 0], .agg #[.int .i64 0, .int .i64 (moA q 1), .int .i64 (moB f 1), .int .i64 (moC q 1)]]) (by simp [results, Try.results143, go_sem, leB, moA, moB, moC]) rfl ⟨rfl, ((below3 _ _ _ _).alloc (by simp; omega) _).drew.drew⟩
set_option maxRecDepth 100000 in
set_option maxHeartbeats 1000000 in
theorem limits2 (q f a b c : Int) (w : World) : Calls Try.prog 143 #[.agg #[.int .i64 q, .int .i64 f], .agg #[.int .i64 2, .int .i64 a, .int .i64 b, .int .i64 c]] w fun e w' => e = .returned (.tuple #[.agg #[.int .i64 0, .int .i64 0, .int .i64 (leB 2), .int .i64 0], .agg #[.int .i64 0, .int .i64 (moA q 2), .int .i64 (moB f 2), .int .i64 (moC q 2)]]) ∧ Below w.heap.size w w' := by
  go_enter Try.func143, Try.ntmps143
  go_wp2
  all_goals go_region
  all_goals go_wp2
  all_goals exact bodyPost_ret (v := .tuple #[.agg #[.int .i64 0, .int .i64 0, .int .i64 (leB 2), .int .i64 0], .agg #[.int .i64 0, .int .i64 (moA q 2), .int .i64 (moB f 2), .int .i64 (moC q 2)]]) (by simp [results, Try.results143, go_sem, leB, moA, moB, moC]) rfl ⟨rfl, ((below3 _ _ _ _).alloc (by simp; omega) _).drew⟩
set_option maxRecDepth 100000 in
set_option maxHeartbeats 1000000 in
theorem limits3 (q f a b c : Int) (w : World) : Calls Try.prog 143 #[.agg #[.int .i64 q, .int .i64 f], .agg #[.int .i64 3, .int .i64 a, .int .i64 b, .int .i64 c]] w fun e w' => e = .returned (.tuple #[.agg #[.int .i64 0, .int .i64 0, .int .i64 (leB 3), .int .i64 0], .agg #[.int .i64 0, .int .i64 (moA q 3), .int .i64 (moB f 3), .int .i64 (moC q 3)]]) ∧ Below w.heap.size w w' := by
  go_enter Try.func143, Try.ntmps143
  go_wp2
  all_goals go_region
  all_goals go_wp2
  all_goals exact bodyPost_ret (v := .tuple #[.agg #[.int .i64 0, .int .i64 0, .int .i64 (leB 3), .int .i64 0], .agg #[.int .i64 0, .int .i64 (moA q 3), .int .i64 (moB f 3), .int .i64 (moC q 3)]]) (by simp [results, Try.results143, go_sem, leB, moA, moB, moC]) rfl ⟨rfl, ((below3 _ _ _ _).alloc (by simp; omega) _).drew⟩
set_option maxRecDepth 100000 in
set_option maxHeartbeats 1000000 in
theorem limits4 (q f a b c : Int) (w : World) : Calls Try.prog 143 #[.agg #[.int .i64 q, .int .i64 f], .agg #[.int .i64 4, .int .i64 a, .int .i64 b, .int .i64 c]] w fun e w' => e = .returned (.tuple #[.agg #[.int .i64 0, .int .i64 0, .int .i64 (leB 4), .int .i64 0], .agg #[.int .i64 0, .int .i64 (moA q 4), .int .i64 (moB f 4), .int .i64 (moC q 4)]]) ∧ Below w.heap.size w w' := by
  go_enter Try.func143, Try.ntmps143
  go_wp2
  all_goals go_region
  all_goals go_wp2
  all_goals exact bodyPost_ret (v := .tuple #[.agg #[.int .i64 0, .int .i64 0, .int .i64 (leB 4), .int .i64 0], .agg #[.int .i64 0, .int .i64 (moA q 4), .int .i64 (moB f 4), .int .i64 (moC q 4)]]) (by simp [results, Try.results143, go_sem, leB, moA, moB, moC]) rfl ⟨rfl, ((below3 _ _ _ _).alloc (by simp; omega) _).drew⟩
set_option maxRecDepth 100000 in
set_option maxHeartbeats 1000000 in
theorem limits5 (q f a b c : Int) (w : World) : Calls Try.prog 143 #[.agg #[.int .i64 q, .int .i64 f], .agg #[.int .i64 5, .int .i64 a, .int .i64 b, .int .i64 c]] w fun e w' => e = .returned (.tuple #[.agg #[.int .i64 0, .int .i64 0, .int .i64 (leB 5), .int .i64 0], .agg #[.int .i64 0, .int .i64 (moA q 5), .int .i64 (moB f 5), .int .i64 (moC q 5)]]) ∧ Below w.heap.size w w' := by
  go_enter Try.func143, Try.ntmps143
  go_wp2
  go_region
  all_goals go_wp2
  all_goals go_region
  all_goals go_wp2
  all_goals exact bodyPost_ret (v := .tuple #[.agg #[.int .i64 0, .int .i64 0, .int .i64 (leB 5), .int .i64 0], .agg #[.int .i64 0, .int .i64 (moA q 5), .int .i64 (moB f 5), .int .i64 (moC q 5)]]) (by simp [results, Try.results143, go_sem, leB, moA, moB, moC]) rfl ⟨rfl, ((below3 _ _ _ _).alloc (by simp; omega) _).drew.drew⟩
end Go.Proofs.Yteogfondnpfklaa
