/-
  The law FnExactPairMean, walked.
-/
import Derived.Test.YtblpfjjnlfjloaaC5zk
import Derived.Test.YtblpfjjnlfjloaaC1i
namespace Go.Proofs.Ytblpfjjnlfjloaa
open Go.RowKit

set_option maxRecDepth 100000 in
set_option maxHeartbeats 1000000 in
theorem lawPairMean (s f a b : Int) (w : World) :
    Calls Try.prog 3 #[.int .i64 s, .int .i64 f, .int .i64 a, .int .i64 b] w fun e w' => e = .returned (.bool true) ∧ Below w.heap.size w w' := by
  obtain ⟨x, y, ok, hS, hI⟩ := pairMean_both s f a b
  have hS := Lib.hid hS
  have hI := Lib.hid hI
  go_enter Try.func3, Try.ntmps3
  go_wp2_with fail
  refine (hS.out _).mono ?_
  rintro e w1 ⟨rfl, hx1⟩
  go_wp2_with fail
  refine (hI.out _).mono ?_
  rintro e w2 ⟨rfl, hx2⟩
  go_wp2
  go_ret
  exact ⟨rfl, hx1.trans (hx2.mono hx1.size)⟩
end Go.Proofs.Ytblpfjjnlfjloaa
