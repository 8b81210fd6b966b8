/-
  Tracks: the program's standOf.
-/
import Derived.Test.YtmhffdgfkgdmlaaC7k
import Derived.Test.YtmhffdgfkgdmlaaWRegB
import Derived.Test.YtmhffdgfkgdmlaaWGrid
namespace Go.Proofs.Ytmhffdgfkgdmlaa
open Go.RowKit

/-- What is written ahead of (p, t): the rows of the state over F0. -/
def rowF (F0 G : Nat → Nat → Int) (p t : Nat) (a b : Nat) : Int := if a < p ∨ (a = p ∧ b < t) then G a b else F0 a b
set_option maxRecDepth 100000 in
theorem run_buildStand0 (w : World) : (Instr.build 78 #[]).run Try.prog w = .ok (.agg (standC (fun _ _ => 0))) w := by kernel_rfl

end Go.Proofs.Ytmhffdgfkgdmlaa
