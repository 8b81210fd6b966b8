/-
  LandingsOf, the model's and the program's.
-/
import Derived.Test.YtmhffdgfkgdmlabC1e
import Derived.Test.YtmhffdgfkgdmlabC1d
import Derived.Test.YtmhffdgfkgdmlabC1i
namespace Go.Proofs.Ytmhffdgfkgdmlab
open Go.RowKit


end Go.Proofs.Ytmhffdgfkgdmlab
