/-
  Single operations, as a walk by hand asks them.
-/
import Derived.Test.YtlicflmpakkccaaDoorGkChaPhase
namespace Go.Proofs.YtlicflmpakkccaaDoor
open Go Go.RowKit

section
variable {P : Program} {a : Act} {o : Oper}
theorem run_addr (t e : TypeId) (n : Nat) (x ix : Operand) (g j : Nat) (ho : o.op = .indexAddr t x ix) (hx : a.eval x = .pointer (some ⟨g, 0, none⟩)) (hix : a.eval ix = .int .i64 (j : Int))
    (hu : P.underlying t = some (.array n e)) (hi : (P.info? e).map (·.size) = some 1) (hj : j < n) (W : World) : (execOp a.eval o).run P W = .ok (.value (.pointer (some ⟨g, j, none⟩))) W := by
  have hsz : (sizeOf e).run P W = .ok 1 W := by
    cases hq : P.info? e with
    | none => simp [hq] at hi
    | some i =>
      have : i.size = 1 := by simpa [hq] using hi
      simp [sizeOf, typeInfo, hq, this]
  unfold execOp
  simp [ho, hx, hix, Instr.indexAt, asIntOf, Instr.sureAddr, run_underlying hu, hj, hsz, Addr.add]
  omega
theorem run_cell (ty : TypeId) (x : Operand) (p : Addr) (v : Value) (d : TypeDesc) (ho : o.op = .load ty x) (hx : a.eval x = .pointer (some p)) (hu : P.underlying ty = some d) (hd : (match d with | .struct _ | .array _ _ => true | _ => false) = false)
    (W : World) (hv : W.cell? p = some v) : (execOp a.eval o).run P W = .ok (.value v) W := by
  have hag : (isAgg ty).run P W = .ok false W := by
    unfold isAgg
    rw [Sem.run_bind, run_underlying hu W]
    cases d <;> simp_all
  unfold execOp
  simp [ho, hx, Instr.loadAt, Instr.sureAddr, loadVar, hag, hv]
theorem run_move (x : Operand) (v : Value) (ho : o.op = .move x) (hx : a.eval x = v) (W : World) : (execOp a.eval o).run P W = .ok (.value v) W := by
  unfold execOp
  simp [ho, hx]
theorem run_extract (x : Operand) (j : Nat) (vs : Array Value) (v : Value) (ho : o.op = .extract x j) (hx : a.eval x = .tuple vs) (hv : vs[j]? = some v) (W : World) : (execOp a.eval o).run P W = .ok (.value v) W := by
  unfold execOp
  simp [ho, hx, Instr.extract, hv]
/-- An element of an array that is a value, itself an array. -/
theorem run_part (t e : TypeId) (n m : Nat) (e' : TypeId) (cs : Array Value) (k : Nat) (hu : P.underlying t = some (.array n e)) (he : P.underlying e = some (.array m e')) (hi : (P.info? e).map (·.size) = some m) (hk : k < n) (w : World) :
    (Instr.index t (.agg cs) (.int .i64 (k : Int))).run P w = .ok (.agg (cs.extract (k * m) (k * m + m))) w := by
  have hsz : (sizeOf e).run P w = .ok m w := by
    cases hq : P.info? e with
    | none => simp [hq] at hi
    | some i =>
      have : i.size = m := by simpa [hq] using hi
      simp [sizeOf, typeInfo, hq, this]
  have hag : (isAgg e).run P w = .ok true w := by
    unfold isAgg
    rw [Sem.run_bind, run_underlying he w]
    rfl
  simp [Instr.index, asIntOf, run_underlying hu, hk, hsz, part, hag]
theorem index_part {ops : Array Oper} {rest : List Oper} {w : World} {Q : Exit → Act → World → Prop} (hgd : o.guard = none) (t : TypeId) (x ix : Operand) (ho : o.op = .index t x ix) (e : TypeId) (n m : Nat) (e' : TypeId) (cs cs' : Array Value) (k : Nat) (hx : a.eval x = .agg cs) (hix : a.eval ix = .int .i64 (k : Int))
    (hu : P.underlying t = some (.array n e)) (he : P.underlying e = some (.array m e')) (hi : (P.info? e).map (·.size) = some m) (hk : k < n) (hcs : cs.extract (k * m) (k * m + m) = cs')
    (h : wpList P ops Q rest (a.put o.dst (.agg cs')) w) : wpList P ops Q (o :: rest) a w :=
  wpList_plain hgd fun _ hK => by
    unfold Oper.wp execOp
    simp only [ho, hx, hix, Sem.run_bind, run_part t e n m e' cs k hu he hi hk w, Result.andThen_ok, Sem.run_pure, hcs]
    exact hK _ _ h
theorem index_one {ops : Array Oper} {rest : List Oper} {w : World} {Q : Exit → Act → World → Prop} (hgd : o.guard = none) (t : TypeId) (x ix : Operand) (ho : o.op = .index t x ix) (e : TypeId) (n : Nat) (d : TypeDesc) (cs : Array Value) (v : Value) (k : Nat) (hx : a.eval x = .agg cs) (hix : a.eval ix = .int .i64 (k : Int))
    (hu : P.underlying t = some (.array n e)) (he : P.underlying e = some d) (hd : (match d with | .struct _ | .array _ _ => true | _ => false) = false) (hi : (P.info? e).map (·.size) = some 1) (hk : k < n) (hv : cs[k]? = some v)
    (h : wpList P ops Q rest (a.put o.dst v) w) : wpList P ops Q (o :: rest) a w :=
  wpList_plain hgd fun _ hK => by
    unfold Oper.wp execOp
    simp only [ho, hx, hix, Sem.run_bind, run_index t e n d cs k v hu he hd hi hk hv w, Result.andThen_ok, Sem.run_pure]
    exact hK _ _ h
theorem store_cell_wp {w : World} {K : Act → World → Prop} {Q : Exit → Act → World → Prop} (ty : TypeId) (x y : Operand) (p : Addr) (k : IntKind) (z : Int) (old : Value) (ho : o.op = .store ty x y) (hx : a.eval x = .pointer (some p)) (hy : a.eval y = .int k z) (hi : (P.info? ty).map (·.size) = some 1)
    (hc : w.cell? p = some old) (hf : w.frozen? p = false) (h : K (a.put o.dst undef) (w.setCell p (.int k z))) : o.wp P a w K Q := by
  have hsz : (sizeOf ty).run P w = .ok 1 w := by
    cases hq : P.info? ty with
    | none => simp [hq] at hi
    | some i =>
      have : i.size = 1 := by simpa [hq] using hi
      simp [sizeOf, typeInfo, hq, this]
  unfold Oper.wp execOp
  simp only [ho, hx, hy, Instr.storeAt, Instr.sureAddr, storeVar, Sem.run_bind, Sem.run_pure, Result.andThen_ok, hsz]
  simp [Value.cells, storeCells, Addr.add_zero', run_store P w p (.int k z) _ rfl, hc, hf]
  exact h
theorem call_wp {w : World} {K : Act → World → Prop} {Q : Exit → Act → World → Prop} (f : Nat) (args : Array Value) (he : (execOp a.eval o).run P w = .ok (.enter f args) w)
    (hc : Calls P f args w fun e w' => ∃ v, e = .returned v ∧ K (a.put o.dst v) w') : o.wp P a w K Q := by
  unfold Oper.wp
  rw [he]
  exact hc.mono (by rintro e w' ⟨v, rfl, h⟩; exact h)
/-- What comes up alone, and stores one cell. -/
theorem two_store {P : Program} {ops : Array Oper} {Q : Exit → Act → World → Prop} {md : Region.Mode} {c : Nat} {S : Bool → World → Prop} {i : Nat} {o : Oper} {n : Nat} {l : Array Bool} {a : Act} {w : World} (b : Bool) (hb : (l.setIfInBounds i true).getD c true = b) (hi : ops[i]? = some o) (hr : Region.ready md ops l = [i]) (hw : Region.wanted o (yielded ops a.tmps) = true)
    (ty : TypeId) (x y : Operand) (p : Addr) (k : IntKind) (z : Int) (old : Value) (ho : o.op = .store ty x y) (hx : a.eval x = .pointer (some p)) (hy : a.eval y = .int k z) (hin : (P.info? ty).map (·.size) = some 1)
    (hc : w.cell? p = some old) (hf : w.frozen? p = false) (hS : S b (w.setCell p (.int k z)))
    (h : wpTwo P md ops Q c S n (l.setIfInBounds i true) (a.put o.dst undef) (w.setCell p (.int k z))) : wpTwo P md ops Q c S (n + 1) l a w :=
  two_alone b hb hi hr hw (store_cell_wp ty x y p k z old ho hx hy hin hc hf ⟨hS, h⟩)
end
end Go.Proofs.YtlicflmpakkccaaDoor
