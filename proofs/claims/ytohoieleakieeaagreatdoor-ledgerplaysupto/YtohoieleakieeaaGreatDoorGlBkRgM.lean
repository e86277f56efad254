/-
  The marks of ranges. Written by mkbk.py.
-/
import Derived.Test.YtohoieleakieeaaGreatDoorGlBkRgA
namespace Go.Proofs.YtohoieleakieeaaGreatDoor.Bq
open Go Go.RowKit

set_option maxRecDepth 20000 in
set_option maxHeartbeats 400000 in
theorem mark_r (k : Nat) (w : World) (h1 : k ≤ 5000000) :
    Calls Tryz.prog 102 #[.int .i64 (k : Int)] w fun e w' => e = .returned (.agg (rC2 (mk k))) ∧ Below w.heap.size w w' := by
  have e1 : ((mk k).1 : Int) = 1000 + (k : Int) := by unfold mk; simp only; omega
  unfold rC2
  rw [e1]
  have hB : ∀ o u, Below w.heap.size w ((w.alloc o).setCells w.heap.size 0 [.int .u64 u, .int .u64 0]) := fun o u => by
    have q : Below w.heap.size w (((w.alloc o).setCell ⟨w.heap.size, 0, none⟩ (.int .u64 u)).setCell ⟨w.heap.size, 1, none⟩ (.int .u64 0)) := ((((Below.refl _ w).alloc (Nat.le_refl _) o).setCell (p := ⟨w.heap.size, 0, none⟩) (Nat.le_refl _) _).setCell (p := ⟨w.heap.size, 1, none⟩) (Nat.le_refl _) _)
    exact q
  go_enter Tryz.func102, Tryz.ntmps102
  go_wp2
  refine bodyPost_ret (results_cell_row rfl _ _ w.heap.size _ #[.int .u64 (1000 + (k : Int)), .int .u64 ((mk k).2 : Int)] (0, 0) _ rfl (Row.new w 63 _) Tryz.underlying63 rfl (by kernel_rfl)) rfl ?_
  exact ⟨rfl, by first | exact hB _ _ | exact (Below.refl _ w).alloc (Nat.le_refl _) _⟩

theorem mark_l (k : Nat) (w : World) (h1 : k ≤ 5000000) :
    Calls Tryz.prog 102 #[.int .i64 (k : Int)] w fun e w' => e = .returned (.agg #[.int .u64 ((mk k).1 : Int), .int .u64 ((mk k).2 : Int)]) ∧ Below w.heap.size w w' := mark_r k w h1

set_option maxRecDepth 20000 in
set_option maxHeartbeats 400000 in
theorem is_r (k : Nat) (w : World) (h1 : k ≤ 5000000) :
    Calls Tryz.prog 114 #[.agg (rC2 (mk k)), .int .i64 (k : Int)] w fun e w' => e = .returned (.bool true) ∧ Below w.heap.size w w' := by
  have e1 : ((mk k).1 : Int) = 1000 + (k : Int) := by unfold mk; simp only; omega
  unfold rC2
  rw [e1]
  have r0 : Row (w.alloc (.cells #[.int .u64 (1000 + (k : Int)), .int .u64 ((mk k).2 : Int)] 63)) w.heap.size 63 #[.int .u64 (1000 + (k : Int)), .int .u64 ((mk k).2 : Int)] := Row.new _ _ _
  have c0 := r0.cell 0
  have HB := veil (show Below w.heap.size w (w.alloc (.cells #[.int .u64 (1000 + (k : Int)), .int .u64 ((mk k).2 : Int)] 63)) from (Below.refl _ w).alloc (Nat.le_refl _) _)
  clear r0
  go_enter Tryz.func114, Tryz.ntmps114
  go_wp2
  go_ret
  exact ⟨by simp, HB.out⟩

end Go.Proofs.YtohoieleakieeaaGreatDoor.Bq
