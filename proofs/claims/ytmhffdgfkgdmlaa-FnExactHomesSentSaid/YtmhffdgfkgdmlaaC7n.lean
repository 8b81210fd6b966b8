/-
  Tracks: the program's ringAndStand at large; IsTrackState on both sides; the model's trPlayer, trMove, trAsked.
-/
import Derived.Test.YtmhffdgfkgdmlaaC7m
import Derived.Test.YtmhffdgfkgdmlaaC7g
namespace Go.Proofs.Ytmhffdgfkgdmlaa
open Go.RowKit




end Go.Proofs.Ytmhffdgfkgdmlaa
