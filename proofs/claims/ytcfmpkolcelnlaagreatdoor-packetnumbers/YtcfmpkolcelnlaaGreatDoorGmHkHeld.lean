/-
  Laws for walks by hand: operations of a region that draws its order; copies into a whole row.
-/
import Derived.Test.YtcfmpkolcelnlaaGreatDoorGm15
import Derived.Test.YtcfmpkolcelnlaaGreatDoorGm7
