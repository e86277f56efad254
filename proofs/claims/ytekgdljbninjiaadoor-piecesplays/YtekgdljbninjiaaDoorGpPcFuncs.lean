/-
  What New, Held, Read and there answer.
-/
import Derived.Test.YtekgdljbninjiaaDoorGpPcMem
import Derived.BigQuiet
namespace Go.Proofs.YtekgdljbninjiaaDoor
open Go Go.RowKit Go.Maps

set_option maxHeartbeats 400000 in
theorem there_yes (w : World) (g m : Nat) (c1 : w.cell? ⟨g, 1, none⟩ = some (.map (some m))) :
    Calls Tryd.prog 22 #[.pointer (some ⟨g, 0, none⟩)] w fun e w' => e = .returned (.bool true) ∧ w' = w := by
  have hq : (binOp .neq 32 (.map (some m)) (.map none)).run Tryd.prog w = .ok (.bool true) w := by kernel_rfl
  go_enter Tryd.func22, Tryd.ntmps22
  go_wp2
  go_ret
  exact ⟨rfl, rfl⟩
set_option maxHeartbeats 400000 in
theorem there_zero (w : World) (g : Nat) (c1 : w.cell? ⟨g, 1, none⟩ = some (.map none)) :
    Calls Tryd.prog 22 #[.pointer (some ⟨g, 0, none⟩)] w fun e w' => e = .returned (.bool false) ∧ w' = w := by
  have hq : (binOp .neq 32 (.map none) (.map none)).run Tryd.prog w = .ok (.bool false) w := by kernel_rfl
  go_enter Tryd.func22, Tryd.ntmps22
  go_wp2
  go_ret
  exact ⟨rfl, rfl⟩
set_option maxHeartbeats 400000 in
theorem there_nil (w : World) :
    Calls Tryd.prog 22 #[.pointer none] w fun e w' => e = .returned (.bool false) ∧ w' = w := by
  go_enter Tryd.func22, Tryd.ntmps22
  go_wp2
  go_ret
  exact ⟨rfl, rfl⟩

set_option maxHeartbeats 400000 in
theorem new_any (r : Nat) (w : World) (hr : r ≤ 1048576) :
    Calls Tryd.prog 5 #[.int .i64 (r : Int)] w fun e w' => ∃ g m, e = .returned (.tuple #[.pointer (some ⟨g, 0, none⟩), .int .i64 0]) ∧ PcOk w' g m (Pc.newS r) ∧ w.heap.size ≤ g ∧ w.heap.size ≤ m ∧ Below w.heap.size w w' := by
  have hmm := @run_makeMap Tryd.prog
  have h1 : ¬ ((r : Int) < 0) := by omega
  have h2 : ¬ ((r : Int) > 1048576) := by omega
  go_enter Tryd.func5, Tryd.ntmps5
  go_wp2
  go_ret2
  have ho : PcOk ((w.alloc (.map #[] 0)).alloc (.cells #[.int .u64 (r : Int), .map (some w.heap.size), .int .u64 0, .int .u64 0, .bool false] 34)) (w.heap.size + 1) w.heap.size (Pc.newS r) := by
    refine ⟨Row.new1 w _ _ _, ?_, Pc.new_fine hr⟩
    have h0 : Pc.heldN (Pc.newS r) = 0 := Pc.cnt_zero (fun _ _ _ => rfl)
    rw [h0]
    exact (MapOk.new w).same (Below.heap_alloc _ _ _ (by simp))
  exact ⟨_, rfl, _, ho, by omega, Nat.le_refl _, ((Below.refl _ w).alloc (Nat.le_refl _) _).alloc (by simp) _⟩
theorem new_no (r : Int) (w : World) (hr : r < 0 ∨ 1048576 < r) :
    Calls Tryd.prog 5 #[.int .i64 r] w fun e w' => e = .returned (.tuple #[.pointer none, .int .i64 1]) ∧ w' = w := by
  by_cases h1 : r < 0
  · go_enter Tryd.func5, Tryd.ntmps5
    go_wp2
    go_ret2
    exact ⟨rfl, rfl⟩
  · have h2 : r > 1048576 := by omega
    go_enter Tryd.func5, Tryd.ntmps5
    go_wp2
    go_ret2
    exact ⟨rfl, rfl⟩

set_option maxHeartbeats 400000 in
theorem pcheld_any (S : PS) (g m : Nat) (w : World) (h : PcOk w g m S) :
    Calls Tryd.prog 19 #[.pointer (some ⟨g, 0, none⟩)] w fun e w' => e = .returned (.int .i64 (Pc.heldN S : Int)) ∧ w' = w := by
  obtain ⟨c0, c1, c2, c3, c4⟩ := h.cells
  have hl := h.map.len
  have HT := veil (there_yes w g m c1)
  generalize Pc.heldN S = N at *
  clear h
  go_enter Tryd.func19, Tryd.ntmps19
  go_wp2_with fail
  refine HT.out.mono ?_
  rintro e1 w1 ⟨rfl, rfl⟩
  go_wp2
  go_ret
  exact ⟨rfl, rfl⟩
set_option maxHeartbeats 400000 in
theorem pcread_any (S : PS) (g m : Nat) (w : World) (h : PcOk w g m S) :
    Calls Tryd.prog 17 #[.pointer (some ⟨g, 0, none⟩)] w fun e w' => e = .returned (.int .u64 (S.read : Int)) ∧ w' = w := by
  obtain ⟨c0, c1, c2, c3, c4⟩ := h.cells
  have HT := veil (there_yes w g m c1)
  clear h
  go_enter Tryd.func17, Tryd.ntmps17
  go_wp2_with fail
  refine HT.out.mono ?_
  rintro e1 w1 ⟨rfl, rfl⟩
  go_wp2
  go_ret
  exact ⟨rfl, rfl⟩
end Go.Proofs.YtekgdljbninjiaaDoor
