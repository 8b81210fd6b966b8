/-
  ReachedFrom, the model's and the program's.
-/
import Derived.Test.YtmhffdgfkgdmlabC1lb
namespace Go.Proofs.Ytmhffdgfkgdmlab
open Go.RowKit





end Go.Proofs.Ytmhffdgfkgdmlab
