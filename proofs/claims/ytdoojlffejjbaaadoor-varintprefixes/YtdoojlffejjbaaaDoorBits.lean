/-
  What varint.mayBeBits and varint.ones answer.
-/
import Derived.Test.YtdoojlffejjbaaaDoorHelp
import Derived.Test.YtdoojlffejjbaaaDoorPlain2
namespace Go.Proofs.YtdoojlffejjbaaaDoor
open Go.RowKit

set_option maxHeartbeats 400000 in
theorem mayBe_yes (b : Int) (w : World) (h0 : 1 ≤ b) (h1 : b ≤ 8) :
    Calls Tryd.prog 59 #[.int .i64 b] w fun e w' => e = .returned (.bool true) ∧ w' = w := by
  go_enter Tryd.func59, Tryd.ntmps59
  go_wp2
  go_ret
  exact ⟨rfl, rfl⟩

set_option maxHeartbeats 400000 in
theorem mayBe_no (b : Int) (w : World) (h : b < 1 ∨ 8 < b) :
    Calls Tryd.prog 59 #[.int .i64 b] w fun e w' => e = .returned (.bool false) ∧ w' = w := by
  rcases h with h | h
  · have h2 : decide (1 ≤ b) = false := by simp; omega
    go_enter Tryd.func59, Tryd.ntmps59
    go_wp2
    go_ret
    exact ⟨rfl, rfl⟩
  · have h2 : decide (1 ≤ b) = true := by simp; omega
    have h3 : decide (b ≤ 8) = false := by simp; omega
    go_enter Tryd.func59, Tryd.ntmps59
    go_wp2
    go_ret
    exact ⟨rfl, rfl⟩

set_option maxHeartbeats 1000000 in
theorem ones_any (b M : Int) (w : World) (h : IsMask b M) :
    Calls Tryd.prog 60 #[.int .i64 b] w fun e w' => e = .returned (.int .u64 M) ∧ w' = w := by
  unfold IsMask at h
  rcases h with ⟨rfl, rfl⟩ | ⟨rfl, rfl⟩ | ⟨rfl, rfl⟩ | ⟨rfl, rfl⟩ | ⟨rfl, rfl⟩ | ⟨rfl, rfl⟩ | ⟨rfl, rfl⟩ | ⟨rfl, rfl⟩
  all_goals
    go_enter Tryd.func60, Tryd.ntmps60
    go_wp2
    go_ret
    exact ⟨rfl, rfl⟩

end Go.Proofs.YtdoojlffejjbaaaDoor
