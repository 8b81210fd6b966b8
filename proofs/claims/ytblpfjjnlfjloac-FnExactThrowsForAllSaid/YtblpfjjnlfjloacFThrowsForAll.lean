/-
  The law FnExactThrowsForAll, walked.
-/
import Derived.Test.YtblpfjjnlfjloacC6x
import Derived.Test.YtblpfjjnlfjloacC1i
namespace Go.Proofs.Ytblpfjjnlfjloac
open Go.RowKit

set_option maxRecDepth 100000 in
set_option maxHeartbeats 1000000 in
theorem lawThrowsForAll (f : Int) (w : World) :
    Calls Try.prog 5 #[.int .i64 f] w fun e w' => e = .returned (.bool true) ∧ Below w.heap.size w w' := by
  obtain ⟨x, y, ok, hS, hI⟩ := throwsForAll_both f
  have hS := Lib.hid hS
  have hI := Lib.hid hI
  go_enter Try.func5, Try.ntmps5
  go_wp2_with fail
  refine (hS.out _).mono ?_
  rintro e w1 ⟨rfl, hx1⟩
  go_wp2_with fail
  refine (hI.out _).mono ?_
  rintro e w2 ⟨rfl, hx2⟩
  go_wp2
  go_ret
  exact ⟨rfl, hx1.trans (hx2.mono hx1.size)⟩
end Go.Proofs.Ytblpfjjnlfjloac
