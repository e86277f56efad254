/-
  The document's Eliciting; its reader's wrong.
-/
import Derived.Test.YtimhbjlmpojhoaaGreatDoorGgFrRefPutA
import Derived.Test.YtimhbjlmpojhoaaGreatDoorGgFrVarQ
namespace Go.Proofs.YtimhbjlmpojhoaaGreatDoor
open Go Go.RowKit

/-- A reader's cells: what is left, and the error's number. -/
def rdC (s : SL) (e : Nat) : Array Value := #[.slice s.a s.len s.cap, .int .i64 (e : Int)]
set_option maxHeartbeats 4000000 in
theorem rd_wrong (g : Nat) (s : SL) (e E : Nat) (so : Bool) (w : World) (hr : Row w g 75 (rdC s e)) :
    Calls Tryz.prog 70 #[.pointer (some ⟨g, 0, none⟩), .bool so, .int .i64 (E : Int)] w fun x w' => (∃ v, x = .returned v) ∧ Row w' g 75 (rdC s (if so = true ∧ e = 0 then E else e)) ∧ w.grownBy w' (some g) := by
  have c1 : w.cell? ⟨g, 1, none⟩ = some (.int .i64 (e : Int)) := hr.cell 1
  have z1 := hr.frozen 1
  have HR := veil hr
  clear hr
  cases so with
  | false =>
    rw [if_neg (by simp)]
    go_enter Tryz.func70, Tryz.ntmps70
    go_wp2_with fail
    go_end0
    exact ⟨⟨_, rfl⟩, HR.out, ⟨rfl, rfl, rfl, Nat.le_refl _, fun _ _ _ => rfl⟩⟩
  | true =>
    by_cases he : e = 0
    · have f1 : ((e : Int) == 0) = true := by simp; omega
      rw [if_pos ⟨rfl, he⟩]
      clear he
      go_enter Tryz.func70, Tryz.ntmps70
      go_wp2_with fail
      go_end0
      exact ⟨⟨_, rfl⟩, HR.out.set 1 _, ⟨rfl, rfl, rfl, by simp [World.setCell], fun k _ hk => Below.heap_setCell _ _ _ _ (fun h => hk (by rw [h]))⟩⟩
    · have f1 : ((e : Int) == 0) = false := by simp; omega
      rw [if_neg (fun h => he h.2)]
      clear he
      go_enter Tryz.func70, Tryz.ntmps70
      go_wp2_with fail
      go_end0
      exact ⟨⟨_, rfl⟩, HR.out, ⟨rfl, rfl, rfl, Nat.le_refl _, fun _ _ _ => rfl⟩⟩
end Go.Proofs.YtimhbjlmpojhoaaGreatDoor
