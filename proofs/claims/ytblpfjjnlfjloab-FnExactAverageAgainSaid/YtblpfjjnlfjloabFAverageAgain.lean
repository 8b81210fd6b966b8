/-
  The law FnExactAverageAgain, walked.
-/
import Derived.Test.YtblpfjjnlfjloabC6z
import Derived.Test.YtblpfjjnlfjloabC1i
namespace Go.Proofs.Ytblpfjjnlfjloab
open Go.RowKit

set_option maxRecDepth 100000 in
set_option maxHeartbeats 1000000 in
theorem lawAverageAgain (f g : Int) (w : World) :
    Calls Try.prog 11 #[.int .i64 f, .int .i64 g] w fun e w' => e = .returned (.bool true) ∧ Below w.heap.size w w' := by
  obtain ⟨x, y, ok, hS, hI⟩ := averageAgain_both f g
  have hS := Lib.hid hS
  have hI := Lib.hid hI
  go_enter Try.func11, Try.ntmps11
  go_wp2_with fail
  refine (hS.out _).mono ?_
  rintro e w1 ⟨rfl, hx1⟩
  go_wp2_with fail
  refine (hI.out _).mono ?_
  rintro e w2 ⟨rfl, hx2⟩
  go_wp2
  go_ret
  exact ⟨rfl, hx1.trans (hx2.mono hx1.size)⟩
end Go.Proofs.Ytblpfjjnlfjloab
