/-
  The law FnExactWaysAgain, walked.
-/
import Derived.Test.YtblpfjjnlfjloabC6z
import Derived.Test.YtblpfjjnlfjloabC1i
namespace Go.Proofs.Ytblpfjjnlfjloab
open Go.RowKit

set_option maxRecDepth 100000 in
set_option maxHeartbeats 1000000 in
theorem lawWaysAgain (f g s : Int) (w : World) :
    Calls Try.prog 10 #[.int .i64 f, .int .i64 g, .int .i64 s] w fun e w' => e = .returned (.bool true) ∧ Below w.heap.size w w' := by
  obtain ⟨x, ok, hS, hI⟩ := waysAgain_both f g s
  have hS := Lib.hid hS
  have hI := Lib.hid hI
  go_enter Try.func10, Try.ntmps10
  go_wp2_with fail
  refine (hS.out _).mono ?_
  rintro e w1 ⟨rfl, hx1⟩
  go_wp2_with fail
  refine (hI.out _).mono ?_
  rintro e w2 ⟨rfl, hx2⟩
  go_wp2
  go_ret
  exact ⟨rfl, hx1.trans (hx2.mono hx1.size)⟩
end Go.Proofs.Ytblpfjjnlfjloab
