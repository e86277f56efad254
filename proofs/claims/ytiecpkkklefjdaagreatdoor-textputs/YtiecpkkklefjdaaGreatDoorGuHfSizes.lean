/-
  What wordSizes answers.
-/
import Derived.Test.YtiecpkkklefjdaaGreatDoorRows
import Derived.Test.YtiecpkkklefjdaaGreatDoorGuHfTools
namespace Go.Proofs.YtiecpkkklefjdaaGreatDoor
open Go Go.RowKit

theorem zero_sizes : (Tryz.prog.info? 56).map (·.zero) = some (some (.agg (ia zI))) := by kernel_rfl
theorem size_sizes : (Tryz.prog.info? 56).map (·.size) = some 257 := by kernel_rfl

set_option maxRecDepth 20000 in
set_option maxHeartbeats 400000 in
theorem wordSizes_any (w : World) : Calls Tryz.prog 59 #[] w fun e w' => e = .returned (.agg (ia Hf.szL)) ∧ Below w.heap.size w w' := by
  have hz := zero_sizes
  have hs := size_sizes
  have h0 : (ia zI).size = 257 := zI_size
  have h1 : (ia Hf.szL).size = 257 := by rw [ia_size, Hf.sz_len]
  have h2 := ia_one Hf.szL
  go_enter Tryz.func59, Tryz.ntmps59
  go_wp2_with (first
    | (with_reducible (show wpList _ _ _ (⟨_, Op.alloc 56, _, _, _, _⟩ :: _) _ _)
       refine alloc_rowH rfl 56 rfl (ia zI) hz ?_)
    | (with_reducible (show wpList _ _ _ (⟨_, Op.build 56 _, _, _, _, _⟩ :: _) _ _)
       refine build_row rfl 56 _ rfl (ia Hf.szL) (by kernel_rfl) ?_)
    | (with_reducible (show wpList _ _ _ (⟨_, Op.store 56 _ _, _, _, _, _⟩ :: _) _ _)
       refine store_new (w := w) rfl 56 _ _ rfl w.heap.size (ia Hf.szL) rfl rfl 56 (ia zI) rfl 257 hs h0 h1 h2 ?_))
  refine bodyPost_ret (result_row rfl _ _ w.heap.size _ _ (Row.new _ _ _) 257 3 rfl Tryz.underlying56 hs h1) rfl ⟨rfl, (Below.refl _ w).alloc (Nat.le_refl _) _⟩
end Go.Proofs.YtiecpkkklefjdaaGreatDoor
