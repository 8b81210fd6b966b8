/-
  Pairs: the squares of both are compared.
-/
import Derived.Test.YtblpfjjnlfjloaaChecked
import Derived.ChangeKeysEq
import Derived.WalkKit
import Derived.Test.YtblpfjjnlfjloaaC1i
namespace Go.Proofs.Ytblpfjjnlfjloaa
open Go.RowKit

theorem cells_int : Try.prog.cellsOf 3 = 1 := by kernel_rfl
theorem eq_both (x y a b : Int) (w : World) : (Op.equalIn 10000 71 (.agg #[.int .i64 x, .int .i64 y]) (.agg #[.int .i64 a, .int .i64 b])).run Try.prog w = .ok (x == a && y == b) w := by
  obtain ⟨i0, hi, _, _, _⟩ := info_parts infoInt1
  have e : (Op.equalIn 10000 71 (.agg #[.int .i64 x, .int .i64 y]) (.agg #[.int .i64 a, .int .i64 b])).run Try.prog w = (Op.eqItems 9999 3 1 #[.int .i64 x, .int .i64 y] #[.int .i64 a, .int .i64 b] (List.range 2)).run Try.prog w := by
    rw [← cells_int]
    exact run_equalIn_array w 9999 _ _ Try.underlying71 hi
  rw [e, show List.range 2 = [0, 1] from rfl]
  cases h1 : (x == a) <;> cases h2 : (y == b)
  all_goals simp [go_sem, h1, h2, part, Op.eqItems]
end Go.Proofs.Ytblpfjjnlfjloaa
