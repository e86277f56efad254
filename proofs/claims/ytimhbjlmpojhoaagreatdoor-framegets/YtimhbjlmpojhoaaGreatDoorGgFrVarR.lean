/-
  What the document's Put answers.
-/
import Derived.Test.YtimhbjlmpojhoaaGreatDoorGg1
namespace Go.Proofs.YtimhbjlmpojhoaaGreatDoor
open Go.RowKit

/-- As many bytes as a number needs. -/
def IsSize (n : Int) (K : Nat) : Prop := (n < 64 ∧ K = 1) ∨ (64 ≤ n ∧ n < 16384 ∧ K = 2) ∨ (16384 ≤ n ∧ n < 1073741824 ∧ K = 4) ∨ (1073741824 ≤ n ∧ K = 8)

theorem size_any (n : Int) (K : Nat) (w : World) (h : IsSize n K) :
    Calls Tryz.prog 144 #[.int .u64 n] w fun e w' => e = .returned (.int .i64 K) ∧ w' = w := by
  unfold IsSize at h
  rcases h with ⟨h1, rfl⟩ | ⟨h0, h1, rfl⟩ | ⟨h0, h1, rfl⟩ | ⟨h0, rfl⟩
  all_goals
    go_enter Tryz.func144, Tryz.ntmps144
    go_wp2
    go_ret
    exact ⟨rfl, rfl⟩

end Go.Proofs.YtimhbjlmpojhoaaGreatDoor
