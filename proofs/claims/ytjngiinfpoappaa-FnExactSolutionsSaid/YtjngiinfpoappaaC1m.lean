/-
  ReachedFrom, the model's and the program's.
-/
import Derived.Test.YtjngiinfpoappaaC1l
namespace Go.Proofs.Ytjngiinfpoappaa
open Go.RowKit





end Go.Proofs.Ytjngiinfpoappaa
