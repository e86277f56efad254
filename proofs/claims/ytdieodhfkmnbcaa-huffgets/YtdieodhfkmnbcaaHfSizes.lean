/-
  What wordSizes answers.
-/
import Derived.Test.YtdieodhfkmnbcaaRows
import Derived.Test.YtdieodhfkmnbcaaHfTools
namespace Go.Proofs.Ytdieodhfkmnbcaa
open Go Go.RowKit

theorem zero_sizes : (Try.prog.info? 60).map (·.zero) = some (some (.agg (ia zI))) := by kernel_rfl
theorem size_sizes : (Try.prog.info? 60).map (·.size) = some 257 := by kernel_rfl

set_option maxRecDepth 20000 in
set_option maxHeartbeats 400000 in
theorem wordSizes_any (w : World) : Calls Try.prog 29 #[] w fun e w' => e = .returned (.agg (ia Hf.szL)) ∧ Below w.heap.size w w' := by
  have hz := zero_sizes
  have hs := size_sizes
  have h0 : (ia zI).size = 257 := zI_size
  have h1 : (ia Hf.szL).size = 257 := by rw [ia_size, Hf.sz_len]
  have h2 := ia_one Hf.szL
  go_enter Try.func29, Try.ntmps29
  go_wp2_with (first
    | (with_reducible (show wpList _ _ _ (⟨_, Op.alloc 60, _, _, _, _⟩ :: _) _ _)
       refine alloc_rowH rfl 60 rfl (ia zI) hz ?_)
    | (with_reducible (show wpList _ _ _ (⟨_, Op.build 60 _, _, _, _, _⟩ :: _) _ _)
       refine build_row rfl 60 _ rfl (ia Hf.szL) (by kernel_rfl) ?_)
    | (with_reducible (show wpList _ _ _ (⟨_, Op.store 60 _ _, _, _, _, _⟩ :: _) _ _)
       refine store_new (w := w) rfl 60 _ _ rfl w.heap.size (ia Hf.szL) rfl rfl 60 (ia zI) rfl 257 hs h0 h1 h2 ?_))
  refine bodyPost_ret (result_row rfl _ _ w.heap.size _ _ (Row.new _ _ _) 257 3 rfl Try.underlying60 hs h1) rfl ⟨rfl, (Below.refl _ w).alloc (Nat.le_refl _) _⟩
end Go.Proofs.Ytdieodhfkmnbcaa
