/-
  Single operations of Put's drawn region; bytes at the beginning of a block.
-/
import Derived.Test.YtiecpkkklefjdaaGreatDoorGuHfBits
import Derived.Test.YtiecpkkklefjdaaGreatDoorGuHfRepeat
namespace Go.Proofs.YtiecpkkklefjdaaGreatDoor
open Go Go.RowKit Go.Shelf

section
variable {P : Program} {a : Act} {o : Oper}
theorem run_quo8 (t t' : TypeId) (x y : Operand) (m : Nat) (ho : o.op = .binOp .quo t x y t') (hx : a.eval x = .int .i64 (m : Int)) (hy : a.eval y = .int .i64 8) (hm : m < 9223372036854775808) (W : World) :
    (execOp a.eval o).run P W = .ok (.value (.int .i64 ((m / 8 : Nat) : Int))) W := by
  have hw : IntKind.i64.wrap ((m : Int) / 8) = ((m / 8 : Nat) : Int) := by rw [IntKind.wrap_i64]; omega
  unfold execOp
  simp only [ho, hx, hy]
  go_simp
theorem run_rem8 (t t' : TypeId) (x y : Operand) (m : Nat) (ho : o.op = .binOp .rem t x y t') (hx : a.eval x = .int .i64 (m : Int)) (hy : a.eval y = .int .i64 8) (W : World) :
    (execOp a.eval o).run P W = .ok (.value (.int .i64 ((m % 8 : Nat) : Int))) W := by
  have hw : IntKind.i64.wrap ((m : Int) % 8) = ((m % 8 : Nat) : Int) := by rw [IntKind.wrap_i64]; omega
  unfold execOp
  simp only [ho, hx, hy]
  go_simp
  rw [Int.tmod_eq_emod_of_nonneg (by omega)]
theorem run_shr128 (t t' : TypeId) (x y : Operand) (r : Nat) (hr : r < 8) (ho : o.op = .binOp .shr t x y t') (hx : a.eval x = .int .u8 128) (hy : a.eval y = .int .i64 (r : Int)) (W : World) :
    (execOp a.eval o).run P W = .ok (.value (.int .u8 ((128 / 2 ^ r : Nat) : Int))) W := by
  unfold execOp
  simp only [ho, hx, hy]
  go_simp
theorem clr_nat (c : By) (r : Nat) : v8 (Hf.clr c r) = ((c.toNat &&& (255 - 128 / 2 ^ r) : Nat) : Int) := by
  unfold v8 Hf.clr
  rw [BitVec.toNat_and, BitVec.toNat_not, BitVec.toNat_ushiftRight, Nat.shiftRight_eq_div_pow]
  rfl
theorem run_andNot (t t' : TypeId) (x y : Operand) (c : By) (r : Nat) (ho : o.op = .binOp .andNot t x y t') (hx : a.eval x = .int .u8 (v8 c)) (hy : a.eval y = .int .u8 ((128 / 2 ^ r : Nat) : Int)) (W : World) :
    (execOp a.eval o).run P W = .ok (.value (.int .u8 (v8 (Hf.clr c r)))) W := by
  have hb : 128 / 2 ^ r < 256 := Nat.lt_of_le_of_lt (Nat.div_le_self _ _) (by decide)
  have h : bits .andNot .u8 (v8 c) ((128 / 2 ^ r : Nat) : Int) = v8 (Hf.clr c r) := by
    rw [clr_nat c r]
    exact u8_andNot_nat c.toNat (128 / 2 ^ r) c.isLt hb
  generalize 128 / 2 ^ r = z at *
  unfold execOp
  simp only [ho, hx, hy]
  go_simp
theorem run_storeH (ty : TypeId) (x y : Operand) (p : Addr) (k : IntKind) (z : Int) (old : Value) (ho : o.op = .store ty x y) (hx : a.eval x = .pointer (some p)) (hy : a.eval y = .int k z) (hi : (P.info? ty).map (·.size) = some 1) (w : World)
    (hc : w.cell? p = some old) (hf : w.frozen? p = false) : (execOp a.eval o).run P w = .ok .skip (w.setCell p (.int k z)) := by
  have hsz : (sizeOf ty).run P w = .ok 1 w := by
    cases hq : P.info? ty with
    | none => simp [hq] at hi
    | some i =>
      have : i.size = 1 := by simpa [hq] using hi
      simp [sizeOf, typeInfo, hq, this]
  unfold execOp
  simp only [ho, hx, hy, Instr.storeAt, Instr.sureAddr, storeVar, Sem.run_bind, Sem.run_pure, Result.andThen_ok, hsz]
  simp [Value.cells, storeCells, Addr.add_zero', run_store P w p (.int k z) _ rfl, hc, hf]
end
def depPt (i : Nat) : List Nat := match i with
  | 2 => [1] | 3 => [0, 2] | 4 => [3] | 6 => [5] | 7 => [6] | 8 => [4, 7] | 9 => [0, 2] | 10 => [8, 9, 0, 1, 2, 3, 4, 5, 6, 7] | _ => []
def valPt (G N i : Nat) (c : By) (k : Nat) : Value := match k with
  | 0 => .slice (some ⟨G, 0, none⟩) N N
  | 1 => .int .i64 (i : Int)
  | 2 => .int .i64 ((i / 8 : Nat) : Int)
  | 3 => .pointer (some ⟨G, i / 8, none⟩)
  | 4 => .int .u8 (v8 c)
  | 5 => .int .i64 (i : Int)
  | 6 => .int .i64 ((i % 8 : Nat) : Int)
  | 7 => .int .u8 ((128 / 2 ^ (i % 8) : Nat) : Int)
  | 8 => .int .u8 (v8 (Hf.clr c (i % 8)))
  | 9 => .pointer (some ⟨G, i / 8, none⟩)
  | _ => undef
def RPt (W0 W1 : World) (m : Nat) (W : World) (_ : Value) : Prop := match m with
  | 0 => W = W0
  | _ => W = W1
end Go.Proofs.YtiecpkkklefjdaaGreatDoor
