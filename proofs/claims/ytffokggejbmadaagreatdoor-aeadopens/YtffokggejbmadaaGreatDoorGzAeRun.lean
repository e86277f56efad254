/-
  Single operations of walks by hand: no program in sight.
-/
import Derived.Test.YtffokggejbmadaaGreatDoorGzAeOpen
namespace Go.Proofs.YtffokggejbmadaaGreatDoor
open Go Go.RowKit

section
variable {P : Program} {a : Act} {o : Oper}
/-- The end of a slice, from a place on. -/
def cutS (s : SL) (n : Nat) : SL := if n = s.cap then ⟨some ⟨s.g, s.off, none⟩, s.len - n, s.cap - n, s.g, s.off, s.b.drop n⟩ else ⟨some ⟨s.g, s.off + n, none⟩, s.len - n, s.cap - n, s.g, s.off + n, s.b.drop n⟩
theorem cutS_ok {w : World} {s : SL} (h : s.Ok w) (n : Nat) (hn : n ≤ s.len) : (cutS s n).Ok w ∧ (cutS s n).len = s.len - n ∧ (cutS s n).b = s.b.drop n := by
  unfold cutS
  split
  · rename_i e
    have hc := h.hcap
    refine ⟨⟨?_, ?_, fun q => ?_, fun p => ?_, fun p => ?_, fun j hj => ?_⟩, rfl, rfl⟩
    · show (s.b.drop n).length = s.len - n; rw [List.length_drop, h.hb]
    · show s.len - n ≤ s.cap - n; omega
    · simp at q
    · have : 0 < s.len - n := p; omega
    · have : 0 < s.len - n := p; omega
    · have : j < s.len - n := hj; omega
  · exact ⟨h.tail n hn, rfl, rfl⟩
theorem run_cut_end (t e : TypeId) (x lo : Operand) (s : SL) (n : Nat) (ho : o.op = .slice t x (some lo) none none) (hx : a.eval x = .slice (some ⟨s.g, s.off, none⟩) s.len s.cap) (hh : a.eval lo = .int .i64 (n : Int)) (hu : P.underlying t = some (.slice e)) (hi1 : (P.info? e).map (·.size) = some 1) (hn : n ≤ s.len) (W : World) :
    (execOp a.eval o).run P W = .ok (.value (.slice (cutS s n).a (cutS s n).len (cutS s n).cap)) W := by
  have hsz : (sizeOf e).run P W = .ok 1 W := by
    cases hq : P.info? e with
    | none => simp [hq] at hi1
    | some i =>
      have : i.size = 1 := by simpa [hq] using hi1
      simp [sizeOf, typeInfo, hq, this]
  unfold execOp
  by_cases e' : n = s.cap
  · have hd : cutS s n = ⟨some ⟨s.g, s.off, none⟩, s.len - n, s.cap - n, s.g, s.off, s.b.drop n⟩ := by unfold cutS; rw [if_pos e']
    simp [ho, hx, hh, hd, Instr.sliceAt, Instr.slice, Instr.sliceBounds, Instr.sliceBound, asIntOf, run_underlying hu, hsz, hn, e'.symm]
  · have hd : cutS s n = ⟨some ⟨s.g, s.off + n, none⟩, s.len - n, s.cap - n, s.g, s.off + n, s.b.drop n⟩ := by unfold cutS; rw [if_neg e']
    simp [ho, hx, hh, hd, Instr.sliceAt, Instr.slice, Instr.sliceBounds, Instr.sliceBound, asIntOf, run_underlying hu, hsz, hn, Addr.add_mid, show ¬ s.cap = n from fun q => e' q.symm]
theorem run_at6 (t e : TypeId) (x ix : Operand) (g off len cap j : Nat) (ho : o.op = .indexAddr t x ix) (hx : a.eval x = .slice (some ⟨g, off, none⟩) len cap) (hix : a.eval ix = .int .i64 (j : Int))
    (hu : P.underlying t = some (.slice e)) (hi : (P.info? e).map (·.size) = some 1) (hj : j < len) (W : World) : (execOp a.eval o).run P W = .ok (.value (.pointer (some ⟨g, off + j, none⟩))) W := by
  have hsz : (sizeOf e).run P W = .ok 1 W := by
    cases hq : P.info? e with
    | none => simp [hq] at hi
    | some i =>
      have : i.size = 1 := by simpa [hq] using hi
      simp [sizeOf, typeInfo, hq, this]
  unfold execOp
  simp [ho, hx, hix, Instr.indexAt, asIntOf, run_underlying hu, hj, hsz, Addr.add]
theorem run_rem16 (t t' : TypeId) (x y : Operand) (b : By) (ho : o.op = .binOp .rem t x y t') (hx : a.eval x = .int .u8 (v8 b)) (hy : a.eval y = .int .u8 16) (W : World) :
    (execOp a.eval o).run P W = .ok (.value (.int .u8 ((b.toNat % 16 : Nat) : Int))) W := by
  have h0 := v8_nn b
  have h1 := v8_le b
  unfold execOp
  simp only [ho, hx, hy]
  go_simp
  rw [Int.tmod_eq_emod_of_nonneg h0]
  unfold v8
  omega
theorem run_conv8 (t t' : TypeId) (x : Operand) (r : Nat) (hr : r < 256) (ho : o.op = .convert t t' x) (hx : a.eval x = .int .u8 (r : Int)) (ht : P.underlying t = some (.int .u8)) (ht' : P.underlying t' = some (.int .i64)) (W : World) :
    (execOp a.eval o).run P W = .ok (.value (.int .i64 (r : Int))) W := by
  have hw : IntKind.i64.wrap (r : Int) = (r : Int) := by rw [IntKind.wrap_i64]; omega
  unfold execOp
  simp only [ho, hx]
  simp [convert, run_underlying ht, run_underlying ht', Conv.intToInt, hw]
theorem run_subN (t t' : TypeId) (x y : Operand) (m r : Nat) (hr : r ≤ m) (hm : m ≤ 140737488355328) (ho : o.op = .binOp .sub t x y t') (hx : a.eval x = .int .i64 (m : Int)) (hy : a.eval y = .int .i64 (r : Int)) (W : World) :
    (execOp a.eval o).run P W = .ok (.value (.int .i64 ((m - r : Nat) : Int))) W := by
  have hw : IntKind.i64.wrap ((m : Int) - (r : Int)) = ((m - r : Nat) : Int) := by rw [IntKind.wrap_i64]; omega
  unfold execOp
  simp only [ho, hx, hy]
  go_simp
theorem run_xorB (t t' : TypeId) (x y : Operand) (b c : By) (ho : o.op = .binOp .xor t x y t') (hx : a.eval x = .int .u8 (v8 b)) (hy : a.eval y = .int .u8 (v8 c)) (W : World) :
    (execOp a.eval o).run P W = .ok (.value (.int .u8 (v8 (xb b c)))) W := by
  unfold execOp
  simp only [ho, hx, hy]
  go_simp
  rw [bxb]
theorem run_storeCell (ty : TypeId) (x y : Operand) (p : Addr) (k : IntKind) (z : Int) (old : Value) (ho : o.op = .store ty x y) (hx : a.eval x = .pointer (some p)) (hy : a.eval y = .int k z) (hi : (P.info? ty).map (·.size) = some 1) (w : World)
    (hc : w.cell? p = some old) (hf : w.frozen? p = false) : (execOp a.eval o).run P w = .ok .skip (w.setCell p (.int k z)) := by
  have hsz : (sizeOf ty).run P w = .ok 1 w := by
    cases hq : P.info? ty with
    | none => simp [hq] at hi
    | some i =>
      have : i.size = 1 := by simpa [hq] using hi
      simp [sizeOf, typeInfo, hq, this]
  unfold execOp
  simp only [ho, hx, hy, Instr.storeAt, Instr.sureAddr, storeVar, Sem.run_bind, Sem.run_pure, Result.andThen_ok, hsz]
  simp [Value.cells, storeCells, Addr.add_zero', run_store P w p (.int k z) _ rfl, hc, hf]
end
end Go.Proofs.YtffokggejbmadaaGreatDoor
