/-
  LandingsOf, the model's and the program's.
-/
import Derived.Test.YtjngiinfpoappaaC1e
import Derived.Test.YtjngiinfpoappaaC1d
import Derived.Test.YtjngiinfpoappaaC1i
namespace Go.Proofs.Ytjngiinfpoappaa
open Go.RowKit


end Go.Proofs.Ytjngiinfpoappaa
