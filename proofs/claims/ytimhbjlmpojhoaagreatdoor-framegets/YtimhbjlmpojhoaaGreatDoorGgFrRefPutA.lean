/-
  The document's put: a frame behind bytes.
-/
import Derived.Test.YtimhbjlmpojhoaaGreatDoorGgFrRef
import Derived.Test.YtimhbjlmpojhoaaGreatDoorGg2
namespace Go.Proofs.YtimhbjlmpojhoaaGreatDoor
open Go Go.RowKit


end Go.Proofs.YtimhbjlmpojhoaaGreatDoor
