/-
  What wordSizes answers.
-/
import Derived.Test.YtiecpkkklefjdaaRows
import Derived.Test.YtiecpkkklefjdaaGtHfTools
namespace Go.Proofs.Ytiecpkkklefjdaa
open Go Go.RowKit

theorem zero_sizes : (Try.prog.info? 72).map (·.zero) = some (some (.agg (ia zI))) := by kernel_rfl
theorem size_sizes : (Try.prog.info? 72).map (·.size) = some 257 := by kernel_rfl

set_option maxRecDepth 20000 in
set_option maxHeartbeats 400000 in
theorem wordSizes_any (w : World) : Calls Try.prog 42 #[] w fun e w' => e = .returned (.agg (ia Hf.szL)) ∧ Below w.heap.size w w' := by
  have hz := zero_sizes
  have hs := size_sizes
  have h0 : (ia zI).size = 257 := zI_size
  have h1 : (ia Hf.szL).size = 257 := by rw [ia_size, Hf.sz_len]
  have h2 := ia_one Hf.szL
  go_enter Try.func42, Try.ntmps42
  go_wp2_with (first
    | (with_reducible (show wpList _ _ _ (⟨_, Op.alloc 72, _, _, _, _⟩ :: _) _ _)
       refine alloc_rowH rfl 72 rfl (ia zI) hz ?_)
    | (with_reducible (show wpList _ _ _ (⟨_, Op.build 72 _, _, _, _, _⟩ :: _) _ _)
       refine build_row rfl 72 _ rfl (ia Hf.szL) (by kernel_rfl) ?_)
    | (with_reducible (show wpList _ _ _ (⟨_, Op.store 72 _ _, _, _, _, _⟩ :: _) _ _)
       refine store_new (w := w) rfl 72 _ _ rfl w.heap.size (ia Hf.szL) rfl rfl 72 (ia zI) rfl 257 hs h0 h1 h2 ?_))
  refine bodyPost_ret (result_row rfl _ _ w.heap.size _ _ (Row.new _ _ _) 257 3 rfl Try.underlying72 hs h1) rfl ⟨rfl, (Below.refl _ w).alloc (Nat.le_refl _) _⟩
end Go.Proofs.Ytiecpkkklefjdaa
