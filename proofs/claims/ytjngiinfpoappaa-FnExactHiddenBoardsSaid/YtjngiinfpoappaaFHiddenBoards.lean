/-
  The law FnExactHiddenBoards, walked.
-/
import Derived.Test.YtjngiinfpoappaaC9w
import Derived.Test.YtjngiinfpoappaaC1i
namespace Go.Proofs.Ytjngiinfpoappaa
open Go.RowKit

set_option maxRecDepth 100000 in
set_option maxHeartbeats 1000000 in
theorem lawHiddenBoards (q f : Int) (w : World) :
    Calls Try.prog 3 #[.int .i64 q, .int .i64 f] w fun e w' => e = .returned (.bool true) ∧ Below w.heap.size w w' := by
  obtain ⟨x, ok, hS, hI⟩ := hiddenBoards_both q f
  have hS := Lib.hid hS
  have hI := Lib.hid hI
  go_enter Try.func3, Try.ntmps3
  go_wp2_with fail
  refine (hS.out _).mono ?_
  rintro e w1 ⟨rfl, hx1⟩
  go_wp2_with fail
  refine (hI.out _).mono ?_
  rintro e w2 ⟨rfl, hx2⟩
  go_wp2
  go_ret
  exact ⟨rfl, hx1.trans (hx2.mono hx1.size)⟩
end Go.Proofs.Ytjngiinfpoappaa
