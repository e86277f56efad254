/-
  Out of ShaRefPlain, ShaEq.
-/
import Derived.Test.YtcfmpkolcelnlaaGreatDoorGm1
import Derived.Test.YtcfmpkolcelnlaaGreatDoorGm4
import Derived.ChangeKeysEq
import Derived.Laws.StructEq

/-! The document's block, on lists: no program in sight. -/
namespace Go.Proofs.YtcfmpkolcelnlaaGreatDoor
open Go

end Go.Proofs.YtcfmpkolcelnlaaGreatDoor

/-! An array of numbers is equal to itself, as the program asks it. -/
namespace Go.Proofs.YtcfmpkolcelnlaaGreatDoor
open Go Go.RowKit

section
variable {P : Program} (w : World)
end
end Go.Proofs.YtcfmpkolcelnlaaGreatDoor
