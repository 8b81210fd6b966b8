/-
  The law FnExactPairChoice, walked.
-/
import Derived.Test.YtblpfjjnlfjloaaC5zn
import Derived.Test.YtblpfjjnlfjloaaC1i
namespace Go.Proofs.Ytblpfjjnlfjloaa
open Go.RowKit

set_option maxRecDepth 100000 in
set_option maxHeartbeats 1000000 in
theorem lawPairChoice (s f a b face : Int) (w : World) :
    Calls Try.prog 4 #[.int .i64 s, .int .i64 f, .int .i64 a, .int .i64 b, .int .i64 face] w fun e w' => e = .returned (.bool true) ∧ Below w.heap.size w w' := by
  obtain ⟨x, ok, hS, hI⟩ := pairChoice_both s f a b face
  have hS := Lib.hid hS
  have hI := Lib.hid hI
  go_enter Try.func4, Try.ntmps4
  go_wp2_with fail
  refine (hS.out _).mono ?_
  rintro e w1 ⟨rfl, hx1⟩
  go_wp2_with fail
  refine (hI.out _).mono ?_
  rintro e w2 ⟨rfl, hx2⟩
  go_wp2
  go_ret
  exact ⟨rfl, hx1.trans (hx2.mono hx1.size)⟩
end Go.Proofs.Ytblpfjjnlfjloaa
