/-
  Parts of a slice, told by where they begin. No function of the program in sight.
-/
import Derived.Test.YtoajnhngcfjohaaGq1
namespace Go.Proofs.Ytoajnhngcfjohaa
open Go Go.RowKit

def cutO (o cap lo size : Nat) : Nat := if lo = cap then o else o + lo * size
section
variable {P : Program} {a : Act} {o : Oper}
theorem lgSize {e : TypeId} {m : Nat} (hi : (P.info? e).map (·.size) = some m) (W : World) : (sizeOf e).run P W = .ok m W := by
  cases hq : P.info? e with
  | none => simp [hq] at hi
  | some i =>
    have : i.size = m := by simpa [hq] using hi
    simp [sizeOf, typeInfo, hq, this]
theorem lgRun_cutL (t e : TypeId) (m : Nat) (x lo : Operand) (g off len cap l : Nat) (ho : o.op = .slice t x (some lo) none none) (hx : a.eval x = .slice (some ⟨g, off, none⟩) len cap) (hl : a.eval lo = .int .i64 (l : Int)) (hu : P.underlying t = some (.slice e)) (hm : (P.info? e).map (·.size) = some m) (h1 : l ≤ len) (h2 : len ≤ cap) (W : World) :
    (execOp a.eval o).run P W = .ok (.value (.slice (some ⟨g, cutO off cap l m, none⟩) (len - l) (cap - l))) W := by
  have hsz := lgSize hm W
  unfold execOp cutO
  by_cases e' : l = cap
  · simp [ho, hx, hl, Instr.sliceAt, Instr.slice, Instr.sliceBounds, Instr.sliceBound, asIntOf, run_underlying hu, hsz, h2, e']
    omega
  · simp [ho, hx, hl, Instr.sliceAt, Instr.slice, Instr.sliceBounds, Instr.sliceBound, asIntOf, run_underlying hu, hsz, h1, Addr.add_mid, e', show ¬ cap = l from fun q => e' q.symm]
end
end Go.Proofs.Ytoajnhngcfjohaa
