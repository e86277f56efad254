/-
  What the document's both answers: what each round of its loop finds.
-/
import Derived.Test.YtalhfciiflcfbaaGreatDoorRgRefB
import Derived.Test.YtalhfciiflcfbaaGreatDoorFrSpine2
namespace Go.Proofs.YtalhfciiflcfbaaGreatDoor
open Go Go.RowKit Go.Shelf

section
variable {P : Program} {a : Act} {o : Oper}
theorem run_lenR (x : Operand) (t e : TypeId) (ad : Option Addr) (len cap : Nat) (ho : o.op = .call { callee := .builtin .len, args := #[x], argTypes := #[t] }) (hx : a.eval x = .slice ad len cap) (W : World) (ht : P.underlying t = some (.slice e)) : (execOp a.eval o).run P W = .ok (.value (.int .i64 (len : Int))) W := by
  unfold execOp
  simp only [ho, resolve, invoke, builtin, List.map_toArray, List.map_cons, List.map_nil, hx]
  go_simp
theorem run_eqlU (t t' : TypeId) (x y : Operand) (m r : Nat) (b : Bool) (hb : b = decide (m = r)) (ho : o.op = .binOp .eql t x y t') (hx : a.eval x = .int .u64 (m : Int)) (hy : a.eval y = .int .u64 (r : Int)) (W : World) :
    (execOp a.eval o).run P W = .ok (.value (.bool b)) W := by
  have hd : ((m : Int) == (r : Int)) = b := by
    rw [hb]
    by_cases h : m = r
    · rw [h]; simp
    · rw [decide_eq_false h]; simp; omega
  unfold execOp
  simp only [ho, hx, hy]
  go_simp
theorem exec_appendR (s x : Operand) (t1 t2 : TypeId) (ho : o.op = .call { callee := .builtin .append, args := #[s, x], argTypes := #[t1, t2] }) (vs vx : Value) (hs : a.eval s = vs) (hx : a.eval x = vx) (w : World)
    (v : Value) (w' : World) (hr : (Builtin.append_ #[t1, t2] o.type #[vs, vx]).run P w = .ok v w') : (execOp a.eval o).run P w = .ok (.value v) w' := by
  unfold execOp
  simp only [ho, resolve, invoke, builtin, Sem.run_bind, Sem.run_pure, Result.andThen_ok, List.map_toArray, List.map_cons, List.map_nil, hs, hx, hr]
end
def dep10 : Nat → List Nat
  | 1 => [0]
  | 2 => [1]
  | 3 => [2]
  | 4 => [3]
  | 5 => [3]
  | 6 => [3, 5]
  | 7 => [3, 6]
  | 8 => [3, 4, 7]
  | 9 => [3, 8]
  | 10 => [3, 9]
  | 11 => [3, 10]
  | 12 => [3]
  | 13 => [3]
  | 14 => [3, 12, 13]
  | 15 => [3, 14]
  | 16 => [3, 11, 15]
  | 17 => [3, 16]
  | _ => []
def val10N (oa : Option Addr) (oc : Nat) (o : List (Nat × Nat)) : Nat → Value
  | 0 => .slice oa o.length oc
  | 1 => .int .i64 (o.length : Int)
  | 2 => .bool false
  | 3 => .bool false
  | 4 => undef
  | 5 => undef
  | 6 => undef
  | 7 => undef
  | 8 => undef
  | 9 => undef
  | 10 => undef
  | 11 => undef
  | 12 => undef
  | 13 => undef
  | 14 => undef
  | 15 => undef
  | 16 => undef
  | _ => .bool false
def val10Y (oa : Option Addr) (oc : Nat) (o : List (Nat × Nat)) (og tg tc : Nat) (t : List Nat) (i y : Nat) (lq : Bool) : Nat → Value
  | 0 => .slice oa o.length oc
  | 1 => .int .i64 (o.length : Int)
  | 2 => .bool true
  | 3 => .bool true
  | 4 => .slice oa o.length oc
  | 5 => .slice oa o.length oc
  | 6 => .int .i64 (o.length : Int)
  | 7 => .int .i64 ((o.length - 1 : Nat) : Int)
  | 8 => .pointer (some ⟨og, 0 + (o.length - 1) * 2, none⟩)
  | 9 => .pointer (some ⟨og, 0 + (o.length - 1) * 2 + 1, none⟩)
  | 10 => .int .u64 (y : Int)
  | 11 => .int .u64 ((y + 1 : Nat) : Int)
  | 12 => .slice (some ⟨tg, 0, none⟩) t.length tc
  | 13 => .int .i64 (i : Int)
  | 14 => .pointer (some ⟨tg, 0 + i * 1, none⟩)
  | 15 => .int .u64 (Rg.gt t i : Int)
  | 16 => .bool lq
  | _ => .bool lq
end Go.Proofs.YtalhfciiflcfbaaGreatDoor
