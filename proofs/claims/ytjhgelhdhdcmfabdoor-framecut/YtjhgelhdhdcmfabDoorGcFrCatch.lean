/-
  frame's reader: what catches a panic with an error.
-/
import Derived.Test.YtjhgelhdhdcmfabDoorGcFrBegin
import Derived.RecoverIn
namespace Go.Proofs.YtjhgelhdhdcmfabDoor
open Go Go.RowKit

set_option maxRecDepth 20000 in
set_option maxHeartbeats 1000000 in
theorem catch_pan (n : Nat) (lb eb E : Nat) (lv ev : Value) (w : World) (hl : w.cell? ⟨lb, 0, none⟩ = some lv) (hlz : w.frozen? ⟨lb, 0, none⟩ = false) (he : w.cell? ⟨eb, 0, none⟩ = some ev) (hez : w.frozen? ⟨eb, 0, none⟩ = false) (hne : lb ≠ eb) :
    CallsDIn Fence.wide n Tryd.prog 23 #[.pointer (some ⟨lb, 0, none⟩), .pointer (some ⟨eb, 0, none⟩)] (.panicking [{ v := .iface 32 (.int .i64 (E : Int)), recovered := false }]) w fun e u' w' =>
      e = .returned (.tuple #[]) ∧ u' = .panicking [{ v := .iface 32 (.int .i64 (E : Int)), recovered := true }] ∧ w' = (w.setCell ⟨lb, 0, none⟩ (.slice none 0 0)).setCell ⟨eb, 0, none⟩ (.int .i64 (E : Int)) := by
  have hta : ∀ w : World, (Instr.typeAssert (.iface 32 (.int .i64 (E : Int))) 20 32 true).run Tryd.prog w = .ok (.tuple #[.int .i64 (E : Int), .bool true]) w := fun w => by kernel_rfl
  refine callsDIn_of_wpSIn Tryd.func23 rfl trivial fun c₀ cs hu => ?_
  apply wpSIn_seq
  apply wpSIn_region
  simp [wpOpsSIn, go_sem, recoverD, hu, Tryd.ntmps23, Exit.thenS, hta]
  apply wpSIn_seq
  apply wpSIn_region
  simp [wpOpsSIn, go_sem, Exit.thenS]
  refine wpSIn_cond (t := true) (by simp [Act.eval, Array.replicate]) ?_
  simp only [if_true]
  apply wpSIn_region
  have hc2 : (w.setCell ⟨lb, 0, none⟩ (.slice none 0 0)).cell? ⟨eb, 0, none⟩ = some ev := (World.cell?_of_block (a := ⟨eb, 0, none⟩) (Below.heap_setCell _ _ _ _ (fun e => hne (Eq.symm e)))).trans he
  have hz2 : (w.setCell ⟨lb, 0, none⟩ (.slice none 0 0)).frozen? ⟨eb, 0, none⟩ = false := by
    rw [World.frozen?_setCell]; exact hez
  simp [wpOpsSIn, go_sem, hl, hlz, hc2, hz2, bodyPostS, results, Tryd.results23]
theorem catch_idle (n : Nat) (lb eb : Nat) (w : World) :
    CallsDIn Fence.wide n Tryd.prog 23 #[.pointer (some ⟨lb, 0, none⟩), .pointer (some ⟨eb, 0, none⟩)] .returning w fun e u' w' => e = .returned (.tuple #[]) ∧ u' = .returning ∧ w' = w := by
  have hta : ∀ w : World, (Instr.typeAssert .nilIface 20 32 true).run Tryd.prog w = .ok (.tuple #[.int .i64 0, .bool false]) w := fun w => by kernel_rfl
  refine callsDIn_of_wpSIn Tryd.func23 rfl trivial fun c₀ cs hu => ?_
  apply wpSIn_seq
  apply wpSIn_region
  simp [wpOpsSIn, go_sem, recoverD, hu, Tryd.ntmps23, Exit.thenS, hta]
  apply wpSIn_seq
  apply wpSIn_region
  simp [wpOpsSIn, go_sem, Exit.thenS]
  refine wpSIn_cond (t := false) (by simp [Act.eval, Array.replicate]) ?_
  simp only [Bool.false_eq_true, if_false]
  refine wpSIn_of_wpIn rfl (wpIn_skip ?_)
  cases c₀
  simp_all [bodyPostS, results, Tryd.results23]
end Go.Proofs.YtjhgelhdhdcmfabDoor
