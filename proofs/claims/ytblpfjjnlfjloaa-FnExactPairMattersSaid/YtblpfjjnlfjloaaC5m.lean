/-
  Pairs: the tokens that can move by a face, the program's.
-/
import Derived.Test.YtblpfjjnlfjloaaC5b
import Derived.Test.YtblpfjjnlfjloaaC1i
import Derived.Test.YtblpfjjnlfjloaaWSeek
namespace Go.Proofs.Ytblpfjjnlfjloaa
open Go.RowKit

/-- The tokens that can move by a face: among the first k. -/
def movK (s a b face : Int) (k : Nat) : List Int := (if 1 ≤ k ∧ a + face ≤ s then [0] else []) ++ (if 2 ≤ k ∧ b + face ≤ s then [1] else [])
theorem movK_len (s a b face : Int) (k : Nat) : (movK s a b face k).length ≤ 2 := by
  unfold movK
  split <;> split <;> simp

theorem idx_both0 (x y : Int) (w : World) : (Instr.index 71 (.agg #[.int .i64 x, .int .i64 y]) (.int .i64 0)).run Try.prog w = .ok (.int .i64 x) w := by kernel_rfl
theorem idx_both1 (x y : Int) (w : World) : (Instr.index 71 (.agg #[.int .i64 x, .int .i64 y]) (.int .i64 1)).run Try.prog w = .ok (.int .i64 y) w := by kernel_rfl
set_option maxRecDepth 100000 in
set_option maxHeartbeats 1000000 in
theorem movers_any (g : Nat) (s f o : Int) (G : Nat → Int) (a b face : Int) (w : World) (hC : CV w g s f o G) (ha0 : 0 ≤ a) (ha : a ≤ 100) (hb0 : 0 ≤ b) (hb : b ≤ 100) (hf0 : 0 ≤ face) (hf : face ≤ 8) :
    Calls Try.prog 53 #[.pointer (some ⟨g, 0, none⟩), .agg #[.int .i64 a, .int .i64 b], .int .i64 face] w fun e w' =>
      ∃ A c, e = .returned (.slice A (movK s a b face 2).length c) ∧ OI w' w.heap.size 3 A (movK s a b face 2).length (fun k => (movK s a b face 2).getD k 0) ∧ Below w.heap.size w w' := by
  obtain ⟨i0, hi, hz0, hz1, hz2⟩ := info_parts infoInt1
  have hgl : g < w.heap.size := cell_lt hC.sq
  have hx0 := idx_both0 a b
  have hx1 := idx_both1 a b
  go_enter Try.func53, Try.ntmps53
  go_wp2_with fail
  go_loopw [7, 8, 9, 11] (fun v _ _ i wr => ∃ k : Nat, k ≤ 2 ∧ i = .int .i64 (k : Int) ∧ Below w.heap.size w wr ∧ wr.ownsRow w.heap.size 3 1 v (movK s a b face k).length ((movK s a b face k).map (Value.int .i64))) (fun _ _ _ i _ => 2 - (intOf i).toNat)
  case atStart => exact ⟨0, by omega, rfl, below1 _ _, World.ownsRow_nil _ _ _ _⟩
  case round =>
    obtain ⟨k, hk, rfl, hB, hown⟩ := hrel
    have c0 := (bcell hB hgl).trans hC.sq
    have hsz := hB.size
    have hlen := movK_len s a b face k
    have hf' := own_from hown
    rcases (show k = 0 ∨ k = 1 ∨ k = 2 by omega) with rfl | rfl | rfl
    · have w0 : IntKind.i64.wrap (a + face) = a + face := IntWalk.i64_in _ (by omega)
      by_cases h : a + face ≤ s
      · go_wp2_with (at_builtin; go_loud (refine wpList_append_own _ rfl _ _ 30 rfl w.heap.size 3 i0 (.int .i64 0) 1 8 Try.underlying30 hi hz0 hz1 hz2 rfl (by decide) _ _ _ rfl (hown.alloc _) ⟨wr.heap.size, 0, none⟩ 1 1 [.int .i64 0] rfl rfl (cell_new1 _ _ _) (one_int _) (by unfold maxLen; omega) (by omega) (by simp; omega) ?_; intro v1 w4 hown4 hg4 _))
        go_roundw
        case rel => exact ⟨1, by omega, rfl, (hB.alloc (by omega) _).grown hg4 (by simp; omega) (fun j hj => hf' j hj), by simpa [movK, h] using hown4⟩
        case measure => simp [intOf]
      · go_wp2_with fail
        go_roundw
        case rel => exact ⟨1, by omega, rfl, hB, by simpa [movK, h] using hown⟩
        case measure => simp [intOf]
    · have w0 : IntKind.i64.wrap (b + face) = b + face := IntWalk.i64_in _ (by omega)
      by_cases h : b + face ≤ s
      · go_wp2_with (at_builtin; go_loud (refine wpList_append_own _ rfl _ _ 30 rfl w.heap.size 3 i0 (.int .i64 0) 1 8 Try.underlying30 hi hz0 hz1 hz2 rfl (by decide) _ _ _ rfl (hown.alloc _) ⟨wr.heap.size, 0, none⟩ 1 1 [.int .i64 1] rfl rfl (cell_new1 _ _ _) (one_int _) (by unfold maxLen; omega) (by omega) (by simp; omega) ?_; intro v1 w4 hown4 hg4 _))
        go_roundw
        case rel => exact ⟨2, by omega, rfl, (hB.alloc (by omega) _).grown hg4 (by simp; omega) (fun j hj => hf' j hj), by
          have e : movK s a b face 2 = movK s a b face 1 ++ [1] := by simp [movK, h]
          rw [e, List.length_append, List.map_append]; exact hown4⟩
        case measure => simp [intOf]
      · go_wp2_with fail
        go_roundw
        case rel => exact ⟨2, by omega, rfl, hB, by
          have e : movK s a b face 2 = movK s a b face 1 := by simp [movK, h]
          rw [e]; exact hown⟩
        case measure => simp [intOf]
    · go_wp2_with fail
      obtain ⟨A', c', rfl, ho⟩ := own_oi hown rfl
      go_ret
      exact ⟨A', c', rfl, ho, hB⟩
end Go.Proofs.Ytblpfjjnlfjloaa
