
import Derived.Test.YtlicflmpakkccaaDoorRows
import Derived.Test.YtlicflmpakkccaaDoorGk1
import Derived.WalkKit
import Derived.WalkSpells
import Derived.WalkLawsBesides
namespace Go.Proofs.YtlicflmpakkccaaDoor
open Go.RowKit

set_option maxHeartbeats 400000 in
theorem rot_any (x : Wd) (n : Int) (w : World) (h0 : 1 ≤ n) (h1 : n ≤ 31) :
    Calls Tryd.prog 33 #[.int .u32 (u x), .int .i64 (-n)] w fun e w' => e = .returned (.int .u32 (u (rr x n.toNat))) ∧ w' = w := by
  have hx0 := u_nn x
  have hx1 := u_le x
  have ha := and31 n h0 h1
  have hs1 := wsl x (32 - n.toNat)
  have hs2 := wsr x n.toNat
  have hb := bo (sl x (32 - n.toNat)) (sr x n.toNat)
  rw [rr_comm] at hb
  have e1 : (32 - n).toNat = 32 - n.toNat := by omega
  have e2 : (32 : Int) - (32 - n) = n := by omega
  go_enter Tryd.func33, Tryd.ntmps33
  go_wp2
  go_ret
  exact ⟨rfl, rfl⟩

set_option maxHeartbeats 400000 in
theorem right_any (x : Wd) (n : Int) (w : World) (h0 : 1 ≤ n) (h1 : n ≤ 31) :
    Calls Tryd.prog 51 #[.int .u32 (u x), .int .i64 n] w fun e w' => e = .returned (.int .u32 (u (rr x n.toNat))) ∧ w' = w := by
  go_enter Tryd.func51, Tryd.ntmps51
  go_wp2_with fail
  refine (rot_any x n _ h0 h1).mono ?_
  rintro e w' ⟨rfl, rfl⟩
  go_wp2
  go_ret
  exact ⟨rfl, rfl⟩

end Go.Proofs.YtlicflmpakkccaaDoor
