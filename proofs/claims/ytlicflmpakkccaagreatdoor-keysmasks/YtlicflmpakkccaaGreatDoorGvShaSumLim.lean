/-
  What both sums answer where there are too many bytes.
-/
import Derived.Test.YtlicflmpakkccaaGreatDoorGvShaSum
namespace Go.Proofs.YtlicflmpakkccaaGreatDoor
open Go Go.RowKit Go.Shelf

set_option maxRecDepth 20000 in
set_option maxHeartbeats 1000000 in
theorem refSum_limit (a : Option Addr) (len cap : Nat) (w : World) (hl : 1048576 < len) :
    Calls Tryz.prog 30 #[.slice a len cap] w fun e w' => e = .returned (.tuple #[.agg (bs z32), .int .i64 3]) ∧ Below w.heap.size w w' := by
  have hgt : ((1048576 : Int) < (len : Int)) := by omega
  go_enter Tryz.func30, Tryz.ntmps30
  go_wp2_with (first
    | (with_reducible (show wpList _ _ _ (⟨_, Op.alloc 60, _, _, _, _⟩ :: _) _ _)
       refine alloc_row rfl 60 rfl (bs z32) (by kernel_rfl) ?_)
    | (with_reducible (show wpList _ _ _ (⟨_, Op.store 60 _ _, _, _, _, _⟩ :: _) _ _)
       refine store_row rfl 60 _ _ rfl w.heap.size (bs z32) rfl rfl _ _ (Row.new _ _ _) 32 (by kernel_rfl) (by rfl) (by rfl) (bs_one _) ?_))
  refine bodyPost_ret (result_row_tmp rfl _ _ w.heap.size _ _ ((Row.new w _ _).put _) 32 5 (.int .i64 3) rfl rfl Tryz.underlying60 (by kernel_rfl) (by rfl)) rfl ⟨rfl, bSetRow ((Below.refl _ w).alloc (Nat.le_refl _) _) (Nat.le_refl _) _⟩

set_option maxRecDepth 20000 in
set_option maxHeartbeats 1000000 in
theorem sum_limit (a : Option Addr) (len cap : Nat) (w : World) (hl : 1048576 < len) :
    Calls Tryz.prog 26 #[.slice a len cap] w fun e w' => e = .returned (.tuple #[.agg (bs z32), .int .i64 3]) ∧ Below w.heap.size w w' := by
  have hgt : ((1048576 : Int) < (len : Int)) := by omega
  go_enter Tryz.func26, Tryz.ntmps26
  go_wp2_with (first
    | (with_reducible (show wpList _ _ _ (⟨_, Op.alloc 60, _, _, _, _⟩ :: _) _ _)
       refine alloc_row rfl 60 rfl (bs z32) (by kernel_rfl) ?_)
    | (with_reducible (show wpList _ _ _ (⟨_, Op.store 60 _ _, _, _, _, _⟩ :: _) _ _)
       refine store_row rfl 60 _ _ rfl w.heap.size (bs z32) rfl rfl _ _ (Row.new _ _ _) 32 (by kernel_rfl) (by rfl) (by rfl) (bs_one _) ?_))
  refine bodyPost_ret (result_row_tmp rfl _ _ w.heap.size _ _ ((Row.new w _ _).put _) 32 5 (.int .i64 3) rfl rfl Tryz.underlying60 (by kernel_rfl) (by rfl)) rfl ⟨rfl, bSetRow ((Below.refl _ w).alloc (Nat.le_refl _) _) (Nat.le_refl _) _⟩
end Go.Proofs.YtlicflmpakkccaaGreatDoor
