/-
  A key, a nonce and what stands beside, in one; what the law's great answers.
-/
import Derived.Test.YtffokggejbmadaaGreatDoorGz4
import Derived.Test.YtffokggejbmadaaGreatDoorGzChaLift
namespace Go.Proofs.YtffokggejbmadaaGreatDoor
open Go Go.ChangeShapes Go.WideShapes Go.ChangeAt Go.RowKit

/-- The cells of a key, a nonce and what stands beside. -/
def withC (k n b : SL) : Array Value := #[.slice k.a k.len k.cap, .slice n.a n.len n.cap, .slice b.a b.len b.cap]
/-- More than is gone through. -/
def greatB (k n b p : Nat) : Bool := (decide ((50000 : Int) < (b : Int) + (p : Int)) && decide ((b : Int) ≤ 1048576) && decide ((p : Int) ≤ 1048592)) || decide ((4194304 : Int) < (b : Int) + (p : Int)) || decide ((100000 : Int) < (k : Int) + (n : Int))

set_option maxRecDepth 20000 in
set_option maxHeartbeats 4000000 in
theorem great_any (k n b p : SL) (hk : k.len ≤ 140737488355328) (hn : n.len ≤ 140737488355328) (hb : b.len ≤ 140737488355328) (hp : p.len ≤ 140737488355328) (w : World) :
    Calls Tryz.prog 5 #[.agg (withC k n b), .slice p.a p.len p.cap] w fun e w' => e = .returned (.bool (greatB k.len n.len b.len p.len)) ∧ Below w.heap.size w w' := by
  have r0 : Row (w.alloc (.cells (withC k n b) 24)) w.heap.size 24 (withC k n b) := Row.new _ _ _
  have b0 : Below w.heap.size w (w.alloc (.cells (withC k n b) 24)) := (Below.refl _ w).alloc (Nat.le_refl _) _
  have c0 := r0.cell 0
  have c1 := r0.cell 1
  have c2 := r0.cell 2
  rw [show (withC k n b)[0]? = some (.slice k.a k.len k.cap) from rfl] at c0
  rw [show (withC k n b)[1]? = some (.slice n.a n.len n.cap) from rfl] at c1
  rw [show (withC k n b)[2]? = some (.slice b.a b.len b.cap) from rfl] at c2
  have hw1 : IntKind.i64.wrap ((b.len : Int) + (p.len : Int)) = (b.len : Int) + (p.len : Int) := by rw [IntKind.wrap_i64]; omega
  have hw2 : IntKind.i64.wrap ((k.len : Int) + (n.len : Int)) = (k.len : Int) + (n.len : Int) := by rw [IntKind.wrap_i64]; omega
  clear hk hn hb hp
  have HR := veil r0
  clear r0
  go_enter Tryz.func5, Tryz.ntmps5
  cases h1 : decide ((50000 : Int) < (b.len : Int) + (p.len : Int)) <;> cases h2 : decide ((b.len : Int) ≤ 1048576) <;> cases h3 : decide ((p.len : Int) ≤ 1048592) <;> cases h4 : decide ((4194304 : Int) < (b.len : Int) + (p.len : Int)) <;> cases h5 : decide ((100000 : Int) < (k.len : Int) + (n.len : Int))
  all_goals
    go_wp2_with fail
    go_ret
    refine ⟨?_, b0⟩
    simp only [greatB, h1, h2, h3, h4, h5]
    rfl
end Go.Proofs.YtffokggejbmadaaGreatDoor
