/-
  What the document's turn, Words, Begin answer.
-/
import Derived.Test.YtcfmghnjokmfiaaGreatDoorRows
import Derived.Test.YtcfmghnjokmfiaaGreatDoorShaPrimes
import Derived.Deep.QuietTactic
import Derived.BigQuiet
namespace Go.Proofs.YtcfmghnjokmfiaaGreatDoor
open Go Go.RowKit

set_option maxHeartbeats 400000 in
theorem refTurn_any (x : Wd) (n : Int) (w : World) (h0 : 1 ≤ n) (h1 : n ≤ 31) :
    Calls Tryz.prog 99 #[.int .u32 (u x), .int .i64 n] w fun e w' => e = .returned (.int .u32 (u (rr x n.toNat))) ∧ ∃ m, w' = w.drewN m := by
  have hs1 := wsl x (32 - n.toNat)
  have hs2 := wsr x n.toNat
  have hb : bits .or .u32 (u (sr x n.toNat)) (u (sl x (32 - n.toNat))) = u (rr x n.toNat) := bo _ _
  have e1 : (32 - n).toNat = 32 - n.toNat := by omega
  have e2 : (0 : Int) ≤ 32 - n ∧ 32 - n ≤ 31 := by omega
  have e3 : IntKind.i64.wrap (32 - n) = 32 - n := by rw [IntKind.wrap_i64]; omega
  go_enter Tryz.func99, Tryz.ntmps99
  go_wp2
  go_quiet (fail)
  go_wp2
  go_ret
  exact ⟨by simp [hs1], _, rfl⟩

set_option maxRecDepth 20000 in
set_option maxHeartbeats 400000 in
theorem refWords_any (w : World) :
    Calls Tryz.prog 100 #[] w fun e w' => e = .returned (.agg (ws KW)) ∧ w' = w.alloc (.cells (ws KW) 152) := by
  go_enter Tryz.func100, Tryz.ntmps100
  go_wp2_with (first
    | (with_reducible (show wpList _ _ _ (⟨_, Op.build 152 _, _, _, _, _⟩ :: _) _ _)
       refine build_row rfl 152 _ rfl (ws KW) (by kernel_rfl) ?_)
    | (with_reducible (show wpList _ _ _ (⟨_, Op.store 152 _ _, _, _, _, _⟩ :: _) _ _)
       refine store_new (w := w) rfl 152 _ _ rfl w.heap.size (ws KW) rfl rfl _ _ rfl 64 (by kernel_rfl) (by rfl) (by rw [ws_size, KW_length]) (ws_one _) ?_))
  exact bodyPost_ret (result_row rfl _ _ w.heap.size _ _ (Row.new _ _ _) 64 147 rfl Tryz.underlying152 (by kernel_rfl) (by rw [ws_size, KW_length])) rfl ⟨rfl, rfl⟩

set_option maxRecDepth 20000 in
set_option maxHeartbeats 400000 in
theorem refBegin_any (w : World) :
    Calls Tryz.prog 90 #[] w fun e w' => e = .returned (.agg (ws HW)) ∧ w' = w.alloc (.cells (ws HW) 148) := by
  go_enter Tryz.func90, Tryz.ntmps90
  go_wp2_with (first
    | (with_reducible (show wpList _ _ _ (⟨_, Op.build 148 _, _, _, _, _⟩ :: _) _ _)
       refine build_row rfl 148 _ rfl (ws HW) (by kernel_rfl) ?_)
    | (with_reducible (show wpList _ _ _ (⟨_, Op.store 148 _ _, _, _, _, _⟩ :: _) _ _)
       refine store_new (w := w) rfl 148 _ _ rfl w.heap.size (ws HW) rfl rfl _ _ rfl 8 (by kernel_rfl) (by rfl) (by rw [ws_size, HW_length]) (ws_one _) ?_))
  exact bodyPost_ret (result_row rfl _ _ w.heap.size _ _ (Row.new _ _ _) 8 147 rfl Tryz.underlying148 (by kernel_rfl) (by rw [ws_size, HW_length])) rfl ⟨rfl, rfl⟩
end Go.Proofs.YtcfmghnjokmfiaaGreatDoor
