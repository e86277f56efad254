/-
  Single operations that the Book's own functions want. No program in sight.
-/
import Derived.Test.YtekgdljbninjiaaDoorGp2
import Derived.Test.YtekgdljbninjiaaDoorGp3
import Derived.Deep.MidRow
import Derived.RangeFuncBox
import Derived.Deep.RegionHeld3
import Derived.Maps.AppendAt
import Derived.ArgAppend
import Derived.BigQuiet
import Derived.Deep.AppendLies
import Derived.Deep.RegionLaw
import Derived.BigRegion
namespace Go.Proofs.YtekgdljbninjiaaDoor.Bq
open Go Go.RowKit

theorem run_cellB {P : Program} {a : Act} {o : Oper} (ty : TypeId) (x : Operand) (p : Addr) (v : Value) (d : TypeDesc) (ho : o.op = .load ty x) (hx : a.eval x = .pointer (some p)) (hu : P.underlying ty = some d) (hd : (match d with | .struct _ | .array _ _ => true | _ => false) = false)
    (W : World) (hv : W.cell? p = some v) : (execOp a.eval o).run P W = .ok (.value v) W := by
  have hag : (isAgg ty).run P W = .ok false W := by
    unfold isAgg
    rw [Sem.run_bind, run_underlying hu W]
    cases d <;> simp_all
  unfold execOp
  simp [ho, hx, Instr.loadAt, Instr.sureAddr, loadVar, hag, hv]
theorem run_lenB {P : Program} {a : Act} {o : Oper} (x : Operand) (t e : TypeId) (ad : Option Addr) (len cap : Nat) (ho : o.op = .call { callee := .builtin .len, args := #[x], argTypes := #[t] }) (hx : a.eval x = .slice ad len cap) (W : World) (ht : P.underlying t = some (.slice e)) : (execOp a.eval o).run P W = .ok (.value (.int .i64 (len : Int))) W := by
  unfold execOp
  simp only [ho, resolve, invoke, builtin, List.map_toArray, List.map_cons, List.map_nil, hx]
  go_simp
theorem run_storeMid8 {P : Program} {a : Act} {o : Oper} (ty : TypeId) (x y : Operand) (b off : Nat) (cells : Array Value) (ho : o.op = .store ty x y) (hx : a.eval x = .pointer (some ⟨b, off, none⟩)) (hy : a.eval y = .agg cells) (w : World) (ht : w.there b off cells.size) (hi : (P.info? ty).map (·.size) = some cells.size) (h1 : cells.all (·.oneCell') = true) : (execOp a.eval o).run P w = .ok .skip (w.setCells b off cells.toList) := by
  unfold execOp
  simp only [ho, hx, hy, run_storeAt_mid w b off ty cells ht hi h1, Sem.run_bind, Sem.run_pure, Result.andThen_ok]
theorem run_lssI8 {P : Program} {a : Act} {o : Oper} (t t' : TypeId) (x y : Operand) (m r : Nat) (b : Bool) (hb : b = decide (m < r)) (ho : o.op = .binOp .lss t x y t') (hx : a.eval x = .int .i64 (m : Int)) (hy : a.eval y = .int .i64 (r : Int)) (W : World) :
    (execOp a.eval o).run P W = .ok (.value (.bool b)) W := by
  subst hb
  unfold execOp
  simp only [ho, hx, hy]
  go_simp
end Go.Proofs.YtekgdljbninjiaaDoor.Bq
