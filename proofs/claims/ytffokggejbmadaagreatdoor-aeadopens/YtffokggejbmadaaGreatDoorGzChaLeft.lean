/-
  What the functions that take four bytes as a word answer.
-/
import Derived.Test.YtffokggejbmadaaGreatDoorRows
import Derived.Test.YtffokggejbmadaaGreatDoorGz1
import Derived.Deep.QuietTactic
import Derived.BigQuiet
namespace Go.Proofs.YtffokggejbmadaaGreatDoor
open Go Go.RowKit

set_option maxRecDepth 20000 in
set_option maxHeartbeats 400000 in
theorem chaRefLeft_any (x : Wd) (n : Int) (w : World) (h0 : 1 ≤ n) (h1 : n ≤ 31) :
    Calls Tryz.prog 127 #[.int .u32 (u x), .int .i64 n] w fun e w' => e = .returned (.int .u32 (u (rl x n.toNat))) ∧ ∃ m, w' = w.drewN m := by
  have hx0 := u_nn x
  have hx1 := u_le x
  have hs1 := wsl x n.toNat
  have hs2 := wsr x (32 - n.toNat)
  have hb : bits .or .u32 (u (sl x n.toNat)) (u (sr x (32 - n.toNat))) = u (rl x n.toNat) := bo (sl x n.toNat) (sr x (32 - n.toNat))
  have e1 : (32 - n).toNat = 32 - n.toNat := by omega
  go_enter Tryz.func127, Tryz.ntmps127
  go_wp2
  go_quiet (fail)
  go_wp2
  go_ret
  exact ⟨rfl, _, rfl⟩


end Go.Proofs.YtffokggejbmadaaGreatDoor
