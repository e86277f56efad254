/-
  Single operations, once more, for walks by hand.
-/
import Derived.Test.YtffokggejbmadaaGreatDoorGz4
import Derived.Test.YtffokggejbmadaaGreatDoorGz3
namespace Go.Proofs.YtffokggejbmadaaGreatDoor
open Go Go.RowKit

section
variable {P : Program} {a : Act} {o : Oper}
theorem run_cut_hi (t e : TypeId) (x hi : Operand) (ad : Addr) (len cap n : Nat) (ho : o.op = .slice t x none (some hi) none) (hx : a.eval x = .slice (some ad) len cap) (hh : a.eval hi = .int .i64 (n : Int)) (hu : P.underlying t = some (.slice e)) (hi1 : (P.info? e).map (·.size) = some 1) (hn : n ≤ cap) (W : World) :
    (execOp a.eval o).run P W = .ok (.value (.slice (some ad) n cap)) W := by
  have hsz : (sizeOf e).run P W = .ok 1 W := by
    cases hq : P.info? e with
    | none => simp [hq] at hi1
    | some i =>
      have : i.size = 1 := by simpa [hq] using hi1
      simp [sizeOf, typeInfo, hq, this]
  unfold execOp
  simp [ho, hx, hh, Instr.sliceAt, Instr.slice, Instr.sliceBounds, Instr.sliceBound, asIntOf, run_underlying hu, hsz, hn, Addr.add_zero']
theorem run_cut_lo (t e : TypeId) (x lo : Operand) (ad : Addr) (len cap n : Nat) (ho : o.op = .slice t x (some lo) none none) (hx : a.eval x = .slice (some ad) len cap) (hh : a.eval lo = .int .i64 (n : Int)) (hu : P.underlying t = some (.slice e)) (hi1 : (P.info? e).map (·.size) = some 1) (hn : n < len) (hc : len ≤ cap) (W : World) :
    (execOp a.eval o).run P W = .ok (.value (.slice (some (ad.add n)) (len - n) (cap - n))) W := by
  have hsz : (sizeOf e).run P W = .ok 1 W := by
    cases hq : P.info? e with
    | none => simp [hq] at hi1
    | some i =>
      have : i.size = 1 := by simpa [hq] using hi1
      simp [sizeOf, typeInfo, hq, this]
  unfold execOp
  simp [ho, hx, hh, Instr.sliceAt, Instr.slice, Instr.sliceBounds, Instr.sliceBound, asIntOf, run_underlying hu, hsz, show n ≤ len by omega, show ¬ cap = n by omega]
theorem run_cut_off (t e : TypeId) (x lo : Operand) (g off len cap n : Nat) (ho : o.op = .slice t x (some lo) none none) (hx : a.eval x = .slice (some ⟨g, off, none⟩) len cap) (hh : a.eval lo = .int .i64 (n : Int)) (hu : P.underlying t = some (.slice e)) (hi1 : (P.info? e).map (·.size) = some 1) (hn : n < len) (hc : len ≤ cap) (W : World) :
    (execOp a.eval o).run P W = .ok (.value (.slice (some ⟨g, off + n, none⟩) (len - n) (cap - n))) W := by
  have := run_cut_lo t e x lo ⟨g, off, none⟩ len cap n ho hx hh hu hi1 hn hc W
  rw [Addr.add_mid] at this
  exact this
theorem run_at (t e : TypeId) (x ix : Operand) (g off len cap j : Nat) (ho : o.op = .indexAddr t x ix) (hx : a.eval x = .slice (some ⟨g, off, none⟩) len cap) (hix : a.eval ix = .int .i64 (j : Int))
    (hu : P.underlying t = some (.slice e)) (hi : (P.info? e).map (·.size) = some 1) (hj : j < len) (W : World) : (execOp a.eval o).run P W = .ok (.value (.pointer (some ⟨g, off + j, none⟩))) W := by
  have hsz : (sizeOf e).run P W = .ok 1 W := by
    cases hq : P.info? e with
    | none => simp [hq] at hi
    | some i =>
      have : i.size = 1 := by simpa [hq] using hi
      simp [sizeOf, typeInfo, hq, this]
  unfold execOp
  simp [ho, hx, hix, Instr.indexAt, asIntOf, run_underlying hu, hj, hsz, Addr.add]
end
section
variable {P : Program} {ops : Array Oper} {Q : Exit → Act → World → Prop} {md : Region.Mode} {S : World → Prop} {fuel : Nat} {listed : Array Bool} {a : Act} {w : World}
/-- What comes up alone, reckons, and makes memory. -/
theorem H_valueW {o : Oper} (i : Nat) (v : Value) (w' : World) (hi : ops[i]? = some o) (hr : Region.ready md ops listed = [i]) (hw : Region.wanted o (yielded ops a.tmps) = true)
    (he : (execOp a.eval o).run P w = .ok (.value v) w') (h : S w' ∧ wpAnyH P md ops Q S fuel (listed.setIfInBounds i true) (a.put o.dst v) w') : wpAnyH P md ops Q S (fuel + 1) listed a w := by
  refine wpAnyH_all hr (by simp) (fun j hj => ?_)
  obtain rfl : j = i := by simpa using hj
  unfold wpOp
  simp only [hi, hw, if_true]
  refine .inl ?_
  unfold Oper.wp
  rw [he]
  exact h
end
end Go.Proofs.YtffokggejbmadaaGreatDoor
