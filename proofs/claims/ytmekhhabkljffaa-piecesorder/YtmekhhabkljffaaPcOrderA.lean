/-
  The places that came, in memory.
-/
import Derived.Test.YtmekhhabkljffaaPcOrdP
import Derived.Test.YtmekhhabkljffaaPcCut
import Derived.Test.YtmekhhabkljffaaPcMemP
namespace Go.Proofs.Ytmekhhabkljffaa
open Go Go.RowKit Go.Maps Go.Shelf

theorem PcOk.keepQ {w w' : World} {g m : Nat} {S : PS} {st : Nat → Prop} (h : PcOk w g m S) (k : KeepP st w w') (hg : ¬ st g) (hm : ¬ st m) : PcOk w' g m S := h.same (k.block _ h.row.lt hg) (k.block _ h.map.lt hm)
def cb (C : Nat → Bool) : Array Value := ((List.range 3001).map fun x => Value.bool (C x)).toArray
theorem cb_get (C : Nat → Bool) {k : Nat} (h : k < 3001) : (cb C)[k]? = some (.bool (C k)) := by
  unfold cb
  rw [List.getElem?_toArray, List.getElem?_map, List.getElem?_range h]
  rfl
theorem cb_set (C : Nat → Bool) {p q : Nat} (h : p ≤ q) (hq : q < 3001) : (cb (Pc.more C p q)).setIfInBounds q (.bool true) = cb (Pc.more C p (q + 1)) := by
  apply Array.ext_getElem?
  intro i
  rw [Array.getElem?_setIfInBounds]
  have hs : (cb (Pc.more C p q)).size = 3001 := by simp [cb]
  by_cases e : q = i
  · subst e
    rw [if_pos rfl, if_pos (by omega), cb_get _ hq, Pc.more_next C h, if_pos rfl]
  · rw [if_neg e]
    by_cases hi : i < 3001
    · rw [cb_get _ hi, cb_get _ hi, Pc.more_next C h, if_neg (Ne.symm e)]
    · rw [Array.getElem?_eq_none (by omega), Array.getElem?_eq_none (by simp [cb]; omega)]
theorem zero_came : (Try.prog.info? 29).map (·.zero) = some (some (.agg (cb fun _ => false))) := by kernel_rfl
theorem exec_alloc9 {P : Program} {a : Act} {o : Oper} {w : World} (t : TypeId) (ho : o.op = .alloc t) (cs : Array Value) (hz : (P.info? t).map (·.zero) = some (some (.agg cs))) : (execOp a.eval o).run P w = .ok (.value (.pointer (some ⟨w.heap.size, 0, none⟩))) (w.alloc (.cells cs t)) := by
  have hzv : (zeroValue t).run P w = .ok (.agg cs) w := by
    cases hq : P.info? t with
    | none => simp [hq] at hz
    | some i =>
      have : i.zero = some (.agg cs) := by simpa [hq] using hz
      simp [zeroValue, typeInfo, hq, this]
  unfold execOp
  simp only [ho, Instr.alloc, Sem.run_bind, hzv, Result.andThen_ok, newVar, newRow, Value.cells, run_newObj_alloc, Sem.run_pure]
theorem alloc_row9 {P : Program} {ops : Array Oper} {rest : List Oper} {o : Oper} {a : Act} {w : World} {Q : Exit → Act → World → Prop} (hgd : o.guard = none) (t : TypeId) (ho : o.op = .alloc t) (cs : Array Value) (hz : (P.info? t).map (·.zero) = some (some (.agg cs)))
    (h : wpList P ops Q rest (a.put o.dst (.pointer (some ⟨w.heap.size, 0, none⟩))) (w.alloc (.cells cs t))) : wpList P ops Q (o :: rest) a w :=
  wpList_plain hgd fun _ hK => by
    unfold Oper.wp
    rw [exec_alloc9 t ho cs hz]
    exact hK _ _ h
theorem run_minI9 {P : Program} (t t' ty : TypeId) (x y : Nat) (W : World) : (Builtin.min_ #[t, t'] ty #[.int .i64 (x : Int), .int .i64 (y : Int)]).run P W = .ok (.int .i64 ((min x y : Nat) : Int)) W := by
  by_cases h : x ≤ y
  · rw [Nat.min_eq_left h]
    have h2 : ¬ (y : Int) < (x : Int) := by omega
    simp [Builtin.min_, Builtin.min2, h2]
  · have h2 : (y : Int) < (x : Int) := by omega
    rw [Nat.min_eq_right (show y ≤ x by omega)]
    simp [Builtin.min_, Builtin.min2, h2]
end Go.Proofs.Ytmekhhabkljffaa
