/-
  The law FnExactAverageKept, walked.
-/
import Derived.Test.YtblpfjjnlfjloabC6o
import Derived.Test.YtblpfjjnlfjloabC1i
namespace Go.Proofs.Ytblpfjjnlfjloab
open Go.RowKit

set_option maxRecDepth 100000 in
set_option maxHeartbeats 1000000 in
theorem lawAverageKept (d f k : Int) (w : World) :
    Calls Try.prog 9 #[.int .i64 d, .int .i64 f, .int .i64 k] w fun e w' => e = .returned (.bool true) ∧ Below w.heap.size w w' := by
  obtain ⟨x, y, ok, hS, hI⟩ := averageKept_both d f k
  have hS := Lib.hid hS
  have hI := Lib.hid hI
  go_enter Try.func9, Try.ntmps9
  go_wp2_with fail
  refine (hS.out _).mono ?_
  rintro e w1 ⟨rfl, hx1⟩
  go_wp2_with fail
  refine (hI.out _).mono ?_
  rintro e w2 ⟨rfl, hx2⟩
  go_wp2
  go_ret
  exact ⟨rfl, hx1.trans (hx2.mono hx1.size)⟩
end Go.Proofs.Ytblpfjjnlfjloab
