/-
  An array of numbers is equal to itself, as the program asks it.
-/
import Derived.Test.YtholddbmnlnkkaaShaHeld
import Derived.ChangeKeysEq
import Derived.Laws.StructEq
namespace Go.Proofs.Ytholddbmnlnkkaa
open Go Go.RowKit

section
variable {P : Program} (w : World)
theorem eqItems_self {t e : TypeId} {n : Nat} {k : IntKind} (he : P.underlying e = some (.int k)) (cs : Array Value) (hcs : ∀ j, j < n → ∃ z, cs[j]? = some (.int k z)) (d : Nat) :
    ∀ is : List Nat, (∀ i ∈ is, i < n) → (Op.eqItems (d + 1) e 1 cs cs is).run P w = .ok true w
  | [], _ => by simp [Op.eqItems]
  | i :: is, h => by
    obtain ⟨z, hz⟩ := hcs i (h i (by simp))
    have px : (part e cs (i * 1)).run P w = .ok (.int k z) w := by
      simp [part, isAgg, run_underlying he, hz]
    have pe : (Op.equalIn (d + 1) e (.int k z) (.int k z)).run P w = .ok true w := by
      rw [run_equalIn_int w d e k k _ _ he]
      simp
    simp only [Op.eqItems, Sem.run_bind, px, pe, Result.andThen_ok, Bool.not_true, Bool.false_eq_true, if_false]
    exact eqItems_self (t := t) he cs hcs d is (fun j hj => h j (by simp [hj]))

theorem run_eql_self {t e : TypeId} {n : Nat} {k : IntKind} {i : TypeInfo} (hu : P.underlying t = some (.array n e)) (he : P.underlying e = some (.int k)) (hi : P.info? e = some i) (hc : P.cellsOf e = 1) (cs : Array Value) (hcs : ∀ j, j < n → ∃ z, cs[j]? = some (.int k z)) :
    (binOp .eql t (.agg cs) (.agg cs)).run P w = .ok (.bool true) w := by
  rw [run_eql_struct, run_equalIn_array w 9999 cs cs hu hi, hc, eqItems_self w (t := t) he cs hcs 9998 _ (fun i hi => List.mem_range.1 hi)]
  rfl

/-- The operation itself. -/
theorem exec_eql_self {o : Oper} {a : Act} (t e : TypeId) (n : Nat) (k : IntKind) (x y : Operand) (t' : TypeId) (cs : Array Value) (ho : o.op = .binOp .eql t x y t') (hx : a.eval x = .agg cs) (hy : a.eval y = .agg cs)
    (hu : P.underlying t = some (.array n e)) (he : P.underlying e = some (.int k)) (hi : (P.info? e).isSome = true) (hc : P.cellsOf e = 1) (hg : P.eqGuardType P.depth t = false) (hcs : ∀ j, j < n → ∃ z, cs[j]? = some (.int k z)) :
    (execOp a.eval o).run P w = .ok (.value (.bool true)) w := by
  obtain ⟨i, hi⟩ := Option.isSome_iff_exists.1 hi
  have h1 : (eqGuard .eql t x y (.agg cs) (.agg cs)).run P w = .ok () w := by
    simp [eqGuard, hg]
  unfold execOp
  simp only [ho, hx, hy, Sem.run_bind, h1, Result.andThen_ok, run_eql_self w hu he hi hc cs hcs, Sem.run_pure]
end
end Go.Proofs.Ytholddbmnlnkkaa
