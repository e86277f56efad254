/-
  The document's Put of a number, and what it puts behind bytes.
-/
import Derived.Test.YtimhbjlmpojhoaaGreatDoorGgFrVarR
import Derived.Test.YtimhbjlmpojhoaaGreatDoorGg2
namespace Go.Proofs.YtimhbjlmpojhoaaGreatDoor
open Go Go.RowKit

theorem isSize_num (n : Nat) : IsSize (n : Int) (Fr.szN n) := by
  unfold IsSize Fr.szN
  by_cases c1 : n < 64
  · rw [if_pos c1]; exact .inl ⟨by omega, rfl⟩
  by_cases c2 : n < 16384
  · rw [if_neg c1, if_pos c2]; exact .inr (.inl ⟨by omega, by omega, rfl⟩)
  by_cases c3 : n < 1073741824
  · rw [if_neg c1, if_neg c2, if_pos c3]; exact .inr (.inr (.inl ⟨by omega, by omega, rfl⟩))
  · rw [if_neg c1, if_neg c2, if_neg c3]; exact .inr (.inr (.inr ⟨by omega, rfl⟩))

theorem ref_size (n : Nat) (w : World) : Calls Tryz.prog 144 #[.int .u64 (n : Int)] w fun e w' => e = .returned (.int .i64 (Fr.szN n)) ∧ w' = w := size_any _ _ w (isSize_num n)

end Go.Proofs.YtimhbjlmpojhoaaGreatDoor
