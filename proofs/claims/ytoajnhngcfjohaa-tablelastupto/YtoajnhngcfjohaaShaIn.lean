/-
  Whole arrays inside a fence: laws of the walk.
-/
import Derived.Test.YtoajnhngcfjohaaShaHeld
import Derived.Deep.MidRow
import Derived.RangeFuncNested
import Derived.RangeFuncBox
import Derived.RangeFuncBound
import Derived.RangeFuncCalls
import Derived.RangeFuncLeaves
import Derived.Shelf.Abstract
import Derived.Shelf.RegionOpen
import Derived.OwnWalkIn
import Derived.TacticsInMore
import Derived.LoopNIn
import Derived.LoopIn
import Derived.Maps.AppendAt
namespace Go.Proofs.Ytoajnhngcfjohaa
open Go Go.RowKit

section
variable {F : Fence} {n : Nat} {P : Program} {ops : Array Oper} {rest : List Oper} {o : Oper} {a : Act} {w : World} {Q : Exit → Act → World → Prop}

theorem about_none (h : ∀ c, o.op ≠ .call c) : o.about P w a.eval = none := by
  unfold Oper.about
  split
  · rename_i c hc; exact absurd hc (h c)
  · rfl

theorem plain_value (hgd : o.guard = none) (hc : ∀ c, o.op ≠ .call c) (hd : ∀ c, o.op ≠ .defer c) (v : Value) (he : (execOp a.eval o).run P w = .ok (.value v) w)
    (h : wpListIn F n P ops Q rest (a.put o.dst v) w) : wpListIn F n P ops Q (o :: rest) a w :=
  wpListIn_plain hgd fun _ hK => ⟨(fun f hf => by rw [about_none hc] at hf; cases hf), (by rw [Oper.semAt_eq _ _ _ hd, he]; exact hK _ _ h)⟩
theorem plain_skip (hgd : o.guard = none) (hc : ∀ c, o.op ≠ .call c) (hd : ∀ c, o.op ≠ .defer c) (w' : World) (he : (execOp a.eval o).run P w = .ok .skip w')
    (h : wpListIn F n P ops Q rest (a.put o.dst undef) w') : wpListIn F n P ops Q (o :: rest) a w :=
  wpListIn_plain hgd fun _ hK => ⟨(fun f hf => by rw [about_none hc] at hf; cases hf), (by rw [Oper.semAt_eq _ _ _ hd, he]; exact hK _ _ h)⟩

theorem load_rowIn (hgd : o.guard = none) (ty : TypeId) (x : Operand) (ho : o.op = .load ty x) (g : Nat) (hx : a.eval x = .pointer (some ⟨g, 0, none⟩)) (t : TypeId) (cs : Array Value) (hg : Row w g t cs) (m : Nat) (e : TypeId)
    (hu : P.underlying ty = some (.array m e)) (hi : (P.info? ty).map (·.size) = some m) (hc : cs.size = m) (h : wpListIn F n P ops Q rest (a.put o.dst (.agg cs)) w) : wpListIn F n P ops Q (o :: rest) a w :=
  plain_value hgd (by simp [ho]) (by simp [ho]) _ (run_load_row ty x ho g hx t cs m e hu hi hc w hg) h

/-- A whole array in the midst of a block. -/
theorem load_midIn (hgd : o.guard = none) (ty : TypeId) (x : Operand) (ho : o.op = .load ty x) (g off : Nat) (hx : a.eval x = .pointer (some ⟨g, off, none⟩)) (cs : List Value) (hg : w.rangeAt g off cs) (m : Nat) (e : TypeId)
    (hu : P.underlying ty = some (.array m e)) (hi : (P.info? ty).map (·.size) = some m) (hc : cs.length = m) (h : wpListIn F n P ops Q rest (a.put o.dst (.agg cs.toArray)) w) : wpListIn F n P ops Q (o :: rest) a w :=
  plain_value hgd (by simp [ho]) (by simp [ho]) _ (by
    unfold execOp
    simp only [ho, hx, Instr.loadAt, Instr.sureAddr, Sem.run_bind, Sem.run_pure, Result.andThen_ok, run_loadVar_mid w g off ty cs _ hg hu rfl (by rw [hc]; exact hi)]) h

theorem run_store_row (ty : TypeId) (x y : Operand) (ho : o.op = .store ty x y) (g : Nat) (cs : Array Value) (hx : a.eval x = .pointer (some ⟨g, 0, none⟩)) (hy : a.eval y = .agg cs) (t : TypeId) (old : Array Value) (hg : Row w g t old)
    (m : Nat) (hi : (P.info? ty).map (·.size) = some m) (hs : old.size = m) (hc : cs.size = m) (h1 : cs.all (·.oneCell') = true) : (execOp a.eval o).run P w = .ok .skip (w.setRow g cs) := by
  unfold execOp
  simp only [ho, hx, hy, Instr.storeAt, Instr.sureAddr, Sem.run_bind, Sem.run_pure, Result.andThen_ok, run_storeVar_row w g t ty old cs hg (by rw [hc]; exact hi) (by omega) h1]
theorem store_rowIn (hgd : o.guard = none) (ty : TypeId) (x y : Operand) (ho : o.op = .store ty x y) (g : Nat) (cs : Array Value) (hx : a.eval x = .pointer (some ⟨g, 0, none⟩)) (hy : a.eval y = .agg cs) (t : TypeId) (old : Array Value) (hg : Row w g t old)
    (m : Nat) (hi : (P.info? ty).map (·.size) = some m) (hs : old.size = m) (hc : cs.size = m) (h1 : cs.all (·.oneCell') = true) (h : wpListIn F n P ops Q rest (a.put o.dst undef) (w.setRow g cs)) : wpListIn F n P ops Q (o :: rest) a w :=
  plain_skip hgd (by simp [ho]) (by simp [ho]) _ (run_store_row ty x y ho g cs hx hy t old hg m hi hs hc h1) h
theorem store_newIn (hgd : o.guard = none) (ty : TypeId) (x y : Operand) (ho : o.op = .store ty x y) (g : Nat) (cs : Array Value) (hx : a.eval x = .pointer (some ⟨g, 0, none⟩)) (hy : a.eval y = .agg cs) (t : TypeId) (old : Array Value) (hg : w.heap.size = g)
    (m : Nat) (hi : (P.info? ty).map (·.size) = some m) (hs : old.size = m) (hc : cs.size = m) (h1 : cs.all (·.oneCell') = true) (h : wpListIn F n P ops Q rest (a.put o.dst undef) (w.alloc (.cells cs t))) : wpListIn F n P ops Q (o :: rest) a (w.alloc (.cells old t)) := by
  subst hg
  refine store_rowIn hgd ty x y ho w.heap.size cs hx hy t old (Row.new _ _ _) m hi hs hc h1 ?_
  rw [World.setRow_alloc_new]
  exact h
/-- A new array, all zero. -/
theorem alloc_rowIn (hgd : o.guard = none) (t : TypeId) (ho : o.op = .alloc t) (cs : Array Value) (hz : (P.info? t).map (·.zero) = some (some (.agg cs))) (h : wpListIn F n P ops Q rest (a.put o.dst (.pointer (some ⟨w.heap.size, 0, none⟩))) (w.alloc (.cells cs t))) : wpListIn F n P ops Q (o :: rest) a w :=
  wpListIn_plain hgd fun _ hK => ⟨(fun f hf => by rw [about_none (by simp [ho])] at hf; cases hf), (by
    rw [Oper.semAt_eq _ _ _ (by simp [ho])]
    have hzv : (zeroValue t).run P w = .ok (.agg cs) w := by
      cases hq : P.info? t with
      | none => simp [hq] at hz
      | some i =>
        have : i.zero = some (.agg cs) := by simpa [hq] using hz
        simp [zeroValue, typeInfo, hq, this]
    have he : (execOp a.eval o).run P w = .ok (.value (.pointer (some ⟨w.heap.size, 0, none⟩))) (w.alloc (.cells cs t)) := by
      unfold execOp
      simp only [ho, Instr.alloc, Sem.run_bind, hzv, Result.andThen_ok, newVar, newRow, Value.cells, run_newObj_alloc, Sem.run_pure]
    rw [he]
    exact hK _ _ h)⟩
theorem build_rowIn (hgd : o.guard = none) (t : TypeId) (parts : Array (Nat × Operand)) (ho : o.op = .build t parts) (cs : Array Value) (hb : P.built t (parts.map fun (i, x) => (i, a.eval x)).toList = some cs)
    (h : wpListIn F n P ops Q rest (a.put o.dst (.agg cs)) w) : wpListIn F n P ops Q (o :: rest) a w :=
  plain_value hgd (by simp [ho]) (by simp [ho]) _ (by
    unfold execOp
    simp only [ho, Sem.run_bind, run_build w t _ cs hb, Result.andThen_ok, Sem.run_pure]) h
end
end Go.Proofs.Ytoajnhngcfjohaa
