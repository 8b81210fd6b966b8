/-
  ReachedFrom, the model's and the program's.
-/
import Derived.Test.YteogfondnpfklaaC1l
namespace Go.Proofs.Yteogfondnpfklaa
open Go.RowKit





end Go.Proofs.Yteogfondnpfklaa
