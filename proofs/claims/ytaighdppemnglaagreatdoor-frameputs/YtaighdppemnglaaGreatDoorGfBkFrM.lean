/-
  The marks of frames. Written by mkbkf.py.
-/
import Derived.Test.YtaighdppemnglaaGreatDoorGfBkFrA
namespace Go.Proofs.YtaighdppemnglaaGreatDoor.Bf
open Go Go.RowKit
open Go.Proofs.YtaighdppemnglaaGreatDoor.Bq (Sep OwnB own_keepP below_keepP keep_grown keep_below run_append_two wpList_append_two run_cellB run_lenB run_storeMid8 run_lssI8)

theorem mk_cells (k : Nat) : oC (mk k) = #[.int .u8 0, .int .u64 0, .int .u64 0, .int .u64 0, .int .u64 (1000 + (k : Int)), .bool false, .slice none 0 0, .slice none 0 0] := by
  have e1 : (((1000 + k : Nat)) : Int) = 1000 + (k : Int) := by omega
  rw [← e1]
  rfl
set_option maxRecDepth 20000 in
set_option maxHeartbeats 400000 in
theorem mark_r (k : Nat) (w : World) (h1 : k ≤ 5000000) :
    Calls Tryz.prog 96 #[.int .i64 (k : Int)] w fun e w' => e = .returned (.agg (oC (mk k))) ∧ Below w.heap.size w w' := by
  rw [mk_cells]
  go_enter Tryz.func96, Tryz.ntmps96
  go_wp2
  refine bodyPost_ret (results_cell_row rfl _ _ w.heap.size _ #[.int .u8 0, .int .u64 0, .int .u64 0, .int .u64 0, .int .u64 (1000 + (k : Int)), .bool false, .slice none 0 0, .slice none 0 0] (0, 0) _ rfl (Row.new w 37 _) Tryz.underlying37 rfl (by kernel_rfl)) rfl ?_
  exact ⟨rfl, (Below.refl _ w).alloc (Nat.le_refl _) _⟩
theorem mark_l (k : Nat) (w : World) (h1 : k ≤ 5000000) :
    Calls Tryz.prog 96 #[.int .i64 (k : Int)] w fun e w' => e = .returned (.agg #[mk k 0, mk k 1, mk k 2, mk k 3, mk k 4, mk k 5, mk k 6, mk k 7]) ∧ Below w.heap.size w w' := mark_r k w h1

set_option maxRecDepth 20000 in
set_option maxHeartbeats 400000 in
theorem is_r (k : Nat) (w : World) (h1 : k ≤ 5000000) :
    Calls Tryz.prog 108 #[.agg (oC (mk k)), .int .i64 (k : Int)] w fun e w' => e = .returned (.bool true) ∧ Below w.heap.size w w' := by
  rw [mk_cells]
  have r0 : Row (w.alloc (.cells #[.int .u8 0, .int .u64 0, .int .u64 0, .int .u64 0, .int .u64 (1000 + (k : Int)), .bool false, .slice none 0 0, .slice none 0 0] 37)) w.heap.size 37 #[.int .u8 0, .int .u64 0, .int .u64 0, .int .u64 0, .int .u64 (1000 + (k : Int)), .bool false, .slice none 0 0, .slice none 0 0] := Row.new _ _ _
  have c4 := r0.cell 4
  have HB := veil (show Below w.heap.size w (w.alloc (.cells #[.int .u8 0, .int .u64 0, .int .u64 0, .int .u64 0, .int .u64 (1000 + (k : Int)), .bool false, .slice none 0 0, .slice none 0 0] 37)) from (Below.refl _ w).alloc (Nat.le_refl _) _)
  clear r0
  go_enter Tryz.func108, Tryz.ntmps108
  go_wp2
  go_ret
  exact ⟨by simp, HB.out⟩
end Go.Proofs.YtaighdppemnglaaGreatDoor.Bf
