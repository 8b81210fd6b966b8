/-
  LandingsOf, the model's and the program's.
-/
import Derived.Test.YteogfondnpfklaaC1e
import Derived.Test.YteogfondnpfklaaC1d
import Derived.Test.YteogfondnpfklaaC1i
namespace Go.Proofs.Yteogfondnpfklaa
open Go.RowKit


end Go.Proofs.Yteogfondnpfklaa
