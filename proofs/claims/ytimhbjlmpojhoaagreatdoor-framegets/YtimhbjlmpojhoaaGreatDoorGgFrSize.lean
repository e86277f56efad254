/-
  How great frames are, as the statements ask it: FrameSize, FramesSize, Beyond.
-/
import Derived.Test.YtimhbjlmpojhoaaGreatDoorGg2
namespace Go.Proofs.YtimhbjlmpojhoaaGreatDoor
open Go Go.RowKit

end Go.Proofs.YtimhbjlmpojhoaaGreatDoor
