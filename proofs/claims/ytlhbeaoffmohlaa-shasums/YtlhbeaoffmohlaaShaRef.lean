/-
  What the document's turn, Words, Begin and the law's own answer.
-/
import Derived.Test.YtlhbeaoffmohlaaRows
import Derived.Test.YtlhbeaoffmohlaaShaPrimes
import Derived.Deep.QuietTactic
import Derived.BigQuiet
namespace Go.Proofs.Ytlhbeaoffmohlaa
open Go Go.RowKit

set_option maxHeartbeats 400000 in
theorem refTurn_any (x : Wd) (n : Int) (w : World) (h0 : 1 ≤ n) (h1 : n ≤ 31) :
    Calls Try.prog 25 #[.int .u32 (u x), .int .i64 n] w fun e w' => e = .returned (.int .u32 (u (rr x n.toNat))) ∧ ∃ m, w' = w.drewN m := by
  have hs1 := wsl x (32 - n.toNat)
  have hs2 := wsr x n.toNat
  have hb : bits .or .u32 (u (sr x n.toNat)) (u (sl x (32 - n.toNat))) = u (rr x n.toNat) := bo _ _
  have e1 : (32 - n).toNat = 32 - n.toNat := by omega
  have e2 : (0 : Int) ≤ 32 - n ∧ 32 - n ≤ 31 := by omega
  have e3 : IntKind.i64.wrap (32 - n) = 32 - n := by rw [IntKind.wrap_i64]; omega
  go_enter Try.func25, Try.ntmps25
  go_wp2
  go_quiet (fail)
  go_wp2
  go_ret
  exact ⟨by simp [hs1], _, rfl⟩

set_option maxHeartbeats 400000 in
theorem lawTurn_any (x : Wd) (n : Int) (w : World) (h0 : 1 ≤ n) (h1 : n ≤ 31) :
    Calls Try.prog 15 #[.int .u32 (u x), .int .i64 n] w fun e w' => e = .returned (.int .u32 (u (rr x n.toNat))) ∧ ∃ m, w' = w.drewN m := by
  have hs1 := wsl x (32 - n.toNat)
  have hs2 := wsr x n.toNat
  have hb : bits .or .u32 (u (sr x n.toNat)) (u (sl x (32 - n.toNat))) = u (rr x n.toNat) := bo _ _
  have e1 : (32 - n).toNat = 32 - n.toNat := by omega
  have e2 : (0 : Int) ≤ 32 - n ∧ 32 - n ≤ 31 := by omega
  have e3 : IntKind.i64.wrap (32 - n) = 32 - n := by rw [IntKind.wrap_i64]; omega
  go_enter Try.func15, Try.ntmps15
  go_wp2
  go_quiet (fail)
  go_wp2
  go_ret
  exact ⟨by simp [hs1], _, rfl⟩

set_option maxRecDepth 20000 in
set_option maxHeartbeats 400000 in
theorem refWords_any (w : World) :
    Calls Try.prog 26 #[] w fun e w' => e = .returned (.agg (ws KW)) ∧ w' = w.alloc (.cells (ws KW) 39) := by
  go_enter Try.func26, Try.ntmps26
  go_wp2_with (first
    | (with_reducible (show wpList _ _ _ (⟨_, Op.build 39 _, _, _, _, _⟩ :: _) _ _)
       refine build_row rfl 39 _ rfl (ws KW) (by kernel_rfl) ?_)
    | (with_reducible (show wpList _ _ _ (⟨_, Op.store 39 _ _, _, _, _, _⟩ :: _) _ _)
       refine store_new (w := w) rfl 39 _ _ rfl w.heap.size (ws KW) rfl rfl _ _ rfl 64 (by kernel_rfl) (by rfl) (by rw [ws_size, KW_length]) (ws_one _) ?_))
  exact bodyPost_ret (result_row rfl _ _ w.heap.size _ _ (Row.new _ _ _) 64 30 rfl Try.underlying39 (by kernel_rfl) (by rw [ws_size, KW_length])) rfl ⟨rfl, rfl⟩

set_option maxRecDepth 20000 in
set_option maxHeartbeats 400000 in
theorem lawWords_any (w : World) :
    Calls Try.prog 16 #[] w fun e w' => e = .returned (.agg (ws KW)) ∧ w' = w.alloc (.cells (ws KW) 39) := by
  go_enter Try.func16, Try.ntmps16
  go_wp2_with (first
    | (with_reducible (show wpList _ _ _ (⟨_, Op.build 39 _, _, _, _, _⟩ :: _) _ _)
       refine build_row rfl 39 _ rfl (ws KW) (by kernel_rfl) ?_)
    | (with_reducible (show wpList _ _ _ (⟨_, Op.store 39 _ _, _, _, _, _⟩ :: _) _ _)
       refine store_new (w := w) rfl 39 _ _ rfl w.heap.size (ws KW) rfl rfl _ _ rfl 64 (by kernel_rfl) (by rfl) (by rw [ws_size, KW_length]) (ws_one _) ?_))
  exact bodyPost_ret (result_row rfl _ _ w.heap.size _ _ (Row.new _ _ _) 64 30 rfl Try.underlying39 (by kernel_rfl) (by rw [ws_size, KW_length])) rfl ⟨rfl, rfl⟩

set_option maxRecDepth 20000 in
set_option maxHeartbeats 400000 in
theorem refBegin_any (w : World) :
    Calls Try.prog 24 #[] w fun e w' => e = .returned (.agg (ws HW)) ∧ w' = w.alloc (.cells (ws HW) 31) := by
  go_enter Try.func24, Try.ntmps24
  go_wp2_with (first
    | (with_reducible (show wpList _ _ _ (⟨_, Op.build 31 _, _, _, _, _⟩ :: _) _ _)
       refine build_row rfl 31 _ rfl (ws HW) (by kernel_rfl) ?_)
    | (with_reducible (show wpList _ _ _ (⟨_, Op.store 31 _ _, _, _, _, _⟩ :: _) _ _)
       refine store_new (w := w) rfl 31 _ _ rfl w.heap.size (ws HW) rfl rfl _ _ rfl 8 (by kernel_rfl) (by rfl) (by rw [ws_size, HW_length]) (ws_one _) ?_))
  exact bodyPost_ret (result_row rfl _ _ w.heap.size _ _ (Row.new _ _ _) 8 30 rfl Try.underlying31 (by kernel_rfl) (by rw [ws_size, HW_length])) rfl ⟨rfl, rfl⟩

set_option maxRecDepth 20000 in
set_option maxHeartbeats 400000 in
theorem lawBegin_any (w : World) :
    Calls Try.prog 14 #[] w fun e w' => e = .returned (.agg (ws HW)) ∧ w' = w.alloc (.cells (ws HW) 31) := by
  go_enter Try.func14, Try.ntmps14
  go_wp2_with (first
    | (with_reducible (show wpList _ _ _ (⟨_, Op.build 31 _, _, _, _, _⟩ :: _) _ _)
       refine build_row rfl 31 _ rfl (ws HW) (by kernel_rfl) ?_)
    | (with_reducible (show wpList _ _ _ (⟨_, Op.store 31 _ _, _, _, _, _⟩ :: _) _ _)
       refine store_new (w := w) rfl 31 _ _ rfl w.heap.size (ws HW) rfl rfl _ _ rfl 8 (by kernel_rfl) (by rfl) (by rw [ws_size, HW_length]) (ws_one _) ?_))
  exact bodyPost_ret (result_row rfl _ _ w.heap.size _ _ (Row.new _ _ _) 8 30 rfl Try.underlying31 (by kernel_rfl) (by rw [ws_size, HW_length])) rfl ⟨rfl, rfl⟩
end Go.Proofs.Ytlhbeaoffmohlaa
