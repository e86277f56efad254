/-
  What varint.mayBeBits and varint.ones answer.
-/
import Derived.Test.YtdoojlffejjbaaaHelp
import Derived.Test.YtdoojlffejjbaaaPlain2
namespace Go.Proofs.Ytdoojlffejjbaaa
open Go.RowKit

set_option maxHeartbeats 400000 in
theorem mayBe_yes (b : Int) (w : World) (h0 : 1 ≤ b) (h1 : b ≤ 8) :
    Calls Try.prog 9 #[.int .i64 b] w fun e w' => e = .returned (.bool true) ∧ w' = w := by
  go_enter Try.func9, Try.ntmps9
  go_wp2
  go_ret
  exact ⟨rfl, rfl⟩

set_option maxHeartbeats 400000 in
theorem mayBe_no (b : Int) (w : World) (h : b < 1 ∨ 8 < b) :
    Calls Try.prog 9 #[.int .i64 b] w fun e w' => e = .returned (.bool false) ∧ w' = w := by
  rcases h with h | h
  · have h2 : decide (1 ≤ b) = false := by simp; omega
    go_enter Try.func9, Try.ntmps9
    go_wp2
    go_ret
    exact ⟨rfl, rfl⟩
  · have h2 : decide (1 ≤ b) = true := by simp; omega
    have h3 : decide (b ≤ 8) = false := by simp; omega
    go_enter Try.func9, Try.ntmps9
    go_wp2
    go_ret
    exact ⟨rfl, rfl⟩

set_option maxHeartbeats 1000000 in
theorem ones_any (b M : Int) (w : World) (h : IsMask b M) :
    Calls Try.prog 10 #[.int .i64 b] w fun e w' => e = .returned (.int .u64 M) ∧ w' = w := by
  unfold IsMask at h
  rcases h with ⟨rfl, rfl⟩ | ⟨rfl, rfl⟩ | ⟨rfl, rfl⟩ | ⟨rfl, rfl⟩ | ⟨rfl, rfl⟩ | ⟨rfl, rfl⟩ | ⟨rfl, rfl⟩ | ⟨rfl, rfl⟩
  all_goals
    go_enter Try.func10, Try.ntmps10
    go_wp2
    go_ret
    exact ⟨rfl, rfl⟩

end Go.Proofs.Ytdoojlffejjbaaa
