/-
  What the laws' helpers answer; a field of a key, a count and a nonce.
-/
import Derived.Test.YtcdmnbmniiblgaaDoorChaAlive
import Derived.Test.YtcdmnbmniiblgaaDoorChaFrom
namespace Go.Proofs.YtcdmnbmniiblgaaDoor
open Go Go.RowKit

set_option maxHeartbeats 400000 in
theorem beyond_yes (b cap : Nat) (n : Int) (w : World) (h : 1048576 < n) (h1 : n ≤ 9223372036854775807) (hc : w.cell? ⟨b, 0, none⟩ = some (.int .i64 n)) :
    Calls Tryd.prog 10 #[.slice (some ⟨b, 0, none⟩) 1 cap] w fun e w' => e = .returned (.bool true) ∧ w' = w := by
  go_enter Tryd.func10, Tryd.ntmps10
  go_wp2
  refine wp_loop_rounds 1 ?_
  rw [rounds_succ]
  go_wp2
  go_ret
  exact ⟨rfl, rfl⟩
set_option maxHeartbeats 400000 in
theorem beyond_no (b cap : Nat) (n : Int) (w : World) (h : n ≤ 1048576) (h1 : 0 ≤ n) (hc : w.cell? ⟨b, 0, none⟩ = some (.int .i64 n)) :
    Calls Tryd.prog 10 #[.slice (some ⟨b, 0, none⟩) 1 cap] w fun e w' => e = .returned (.bool false) ∧ w' = w := by
  go_enter Tryd.func10, Tryd.ntmps10
  go_wp2
  refine wp_loop_rounds 2 ?_
  rw [rounds_succ]
  go_wp2
  rw [rounds_succ]
  go_wp2
  go_ret
  exact ⟨rfl, rfl⟩
section
variable {P : Program} {ops : Array Oper} {rest : List Oper} {o : Oper} {a : Act} {w : World} {Q : Exit → Act → World → Prop}
theorem load_part (hgd : o.guard = none) (ty : TypeId) (x : Operand) (ho : o.op = .load ty x) (g off : Nat) (hx : a.eval x = .pointer (some ⟨g, off, none⟩)) (cs : Array Value) (d : TypeDesc) (hu : P.underlying ty = some d) (hd : d.isRow = true) (n : Nat) (hi : (P.info? ty).map (·.size) = some n) (hn : cs.size = n) (hc : w.rangeAt g off cs.toList)
    (h : wpList P ops Q rest (a.put o.dst (.agg cs)) w) : wpList P ops Q (o :: rest) a w :=
  wpList_plain hgd fun _ hK => by unfold Oper.wp; rw [run_mid ty x g off cs d ho hx hu hd (by rw [hn]; exact hi) w hc, Oper.upon_value]; exact hK _ _ h
end
end Go.Proofs.YtcdmnbmniiblgaaDoor
