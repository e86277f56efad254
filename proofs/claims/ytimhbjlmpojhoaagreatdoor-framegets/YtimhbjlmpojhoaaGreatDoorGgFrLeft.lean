/-
  What the statements' helper LeftFrame answers of a copy that is kept.
-/
import Derived.Test.YtimhbjlmpojhoaaGreatDoorGg10
namespace Go.Proofs.YtimhbjlmpojhoaaGreatDoor
open Go Go.RowKit

end Go.Proofs.YtimhbjlmpojhoaaGreatDoor
