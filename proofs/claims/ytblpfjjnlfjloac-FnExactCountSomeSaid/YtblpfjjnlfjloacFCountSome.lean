/-
  The law FnExactCountSome, walked.
-/
import Derived.Test.YtblpfjjnlfjloacC6u
import Derived.Test.YtblpfjjnlfjloacC1i
namespace Go.Proofs.Ytblpfjjnlfjloac
open Go.RowKit

set_option maxRecDepth 100000 in
set_option maxHeartbeats 1000000 in
theorem lawCountSome (d f a : Int) (w : World) :
    Calls Try.prog 3 #[.int .i64 d, .int .i64 f, .int .i64 a] w fun e w' => e = .returned (.bool true) ∧ Below w.heap.size w w' := by
  obtain ⟨x, ok, hS, hI⟩ := countSome_both d f a
  have hS := Lib.hid hS
  have hI := Lib.hid hI
  go_enter Try.func3, Try.ntmps3
  go_wp2_with fail
  refine (hS.out _).mono ?_
  rintro e w1 ⟨rfl, hx1⟩
  go_wp2_with fail
  refine (hI.out _).mono ?_
  rintro e w2 ⟨rfl, hx2⟩
  go_wp2
  go_ret
  exact ⟨rfl, hx1.trans (hx2.mono hx1.size)⟩
end Go.Proofs.Ytblpfjjnlfjloac
