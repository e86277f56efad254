/-
  Single operations on structures of two numbers, for regions that draw their order.
-/
import Derived.Test.YtepkajaallcnmaaFlLives
import Derived.Deep.RegionHeld3
namespace Go.Proofs.Ytepkajaallcnmaa
open Go Go.RowKit

theorem run_load_st {P : Program} {a : Act} {o : Oper} (ty : TypeId) (x : Operand) (ho : o.op = .load ty x) (g : Nat) (hx : a.eval x = .pointer (some ⟨g, 0, none⟩)) (t : TypeId) (cs : Array Value) (n : Nat) (fs : Array Field)
    (hu : P.underlying ty = some (.struct fs)) (hi : (P.info? ty).map (·.size) = some n) (hc : cs.size = n) (W : World) (hg : Row W g t cs) : (execOp a.eval o).run P W = .ok (.value (.agg cs)) W := by
  unfold execOp
  simp only [ho, hx, Instr.loadAt, Instr.sureAddr, Sem.run_bind, Sem.run_pure, Result.andThen_ok, run_loadVar_row W g t ty cs (0, 0) _ hg hu rfl (by rw [hc]; exact hi)]
set_option maxRecDepth 20000 in
theorem eql_ref {a : Act} {o : Oper} (x y : Operand) (p q : Int) (ho : o.op = .binOp .eql 30 x y 30) (hx : a.eval x = .agg #[.int .u64 p, .int .u64 q]) (hy : a.eval y = .agg #[.int .u64 p, .int .u64 q]) (W : World) :
    (execOp a.eval o).run Try.prog W = .ok (.value (.bool true)) W := by
  unfold execOp
  simp only [ho, hx, hy]
  go_simp
set_option maxRecDepth 20000 in
theorem of_any (l u : Nat) (w : World) : Calls Try.prog 13 #[.agg #[.int .u64 (l : Int), .int .u64 (u : Int)]] w fun e w' => e = .returned (.agg #[.int .u64 (l : Int), .int .u64 (u : Int)]) ∧ Below w.heap.size w w' := by
  have r0 : Row ((w.alloc (.cells #[.int .u64 (l : Int), .int .u64 (u : Int)] 24)).alloc (.cells #[.int .u64 0, .int .u64 0] 30)) w.heap.size 24 #[.int .u64 (l : Int), .int .u64 (u : Int)] := (Row.new _ _ _).alloc _
  have c0 : ((w.alloc (.cells #[.int .u64 (l : Int), .int .u64 (u : Int)] 24)).alloc (.cells #[.int .u64 0, .int .u64 0] 30)).cell? ⟨w.heap.size, 0, none⟩ = some (.int .u64 (l : Int)) := r0.cell 0
  have c1 : ((w.alloc (.cells #[.int .u64 (l : Int), .int .u64 (u : Int)] 24)).alloc (.cells #[.int .u64 0, .int .u64 0] 30)).cell? ⟨w.heap.size, 1, none⟩ = some (.int .u64 (u : Int)) := r0.cell 1
  clear r0
  go_enter Try.func13, Try.ntmps13
  go_wp2_with fail
  refine bodyPost_ret (results_cell_row rfl _ _ (w.heap.size + 1) 30 _ (0, 0) _ rfl (Row.new1 _ _ _ _) Try.underlying30 rfl (by kernel_rfl)) rfl ⟨rfl, ?_⟩
  exact ((Below.refl w.heap.size w).alloc (Nat.le_refl _) _).alloc (by simp) _
/-- A call behind a guard that holds, in a region that draws its order. -/
theorem step_callG {P : Program} {ops : Array Oper} {o : Oper} {a : Act} {w : World} {K : Act → World → Prop} {Q : Exit → Act → World → Prop} {E : Prop} (hw : Region.wanted o (yielded ops a.tmps) = true) (f : Nat) (args : Array Value)
    (he : (execOp a.eval o).run P w = .ok (.enter f args) w) (hc : Calls P f args w fun e w' => ∃ v, e = .returned v ∧ K (a.put o.dst v) w') :
    if Region.wanted o (yielded ops a.tmps) = true then Oper.wp P o a w K Q else E := by
  rw [if_pos hw]
  unfold Oper.wp
  rw [he]
  exact hc.mono (by rintro e w' ⟨v, rfl, h⟩; exact h)
end Go.Proofs.Ytepkajaallcnmaa
