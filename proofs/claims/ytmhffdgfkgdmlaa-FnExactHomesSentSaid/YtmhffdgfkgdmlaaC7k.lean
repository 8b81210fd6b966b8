/-
  Tracks: the program's isPeaceful, standOf.
-/
import Derived.Test.YtmhffdgfkgdmlaaC7jb
import Derived.Deep.RegionWith
namespace Go.Proofs.Ytmhffdgfkgdmlaa
open Go.RowKit

end Go.Proofs.Ytmhffdgfkgdmlaa
