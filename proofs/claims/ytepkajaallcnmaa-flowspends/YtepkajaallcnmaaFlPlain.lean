/-
  Credit, plainly: what is spent, left, raised, used and offered; what a stream's number says.
-/
import Derived.Test.YtepkajaallcnmaaShaArr
namespace Go.Proofs.Ytepkajaallcnmaa
open Go Go.RowKit

def topN : Nat := 4611686018427387903
/-- May credit be? -/
def mayC (l u : Nat) : Bool := decide (l ≤ 4611686018427387903) && decide (u ≤ l)
def zero2 : Nat × Nat := (0, 0)
def spendE (l u n : Nat) : Int := if mayC l u = true ∧ n ≤ 4611686018427387903 then (if n ≤ l - u then 0 else 7) else 1
def spendO (l u n : Nat) : Nat × Nat := if spendE l u n = 0 then (l, u + n) else (0, 0)
def leftC (l u : Nat) : Nat := if mayC l u = true then l - u else 0
def raiseE (l u n : Nat) : Int := if mayC l u = true ∧ n ≤ 4611686018427387903 then 0 else 1
def raiseO (l u n : Nat) : Nat × Nat := if raiseE l u n = 0 then (Nat.max l n, u) else (0, 0)
def cameE (l u n : Nat) : Int := if mayC l u = true ∧ n ≤ 4611686018427387903 then (if n ≤ l then 0 else 7) else 1
def cameO (l u n : Nat) : Nat × Nat := if cameE l u n = 0 then (l, Nat.max u n) else (0, 0)
def limC (r m : Nat) : Nat := Nat.min (r + m) 4611686018427387903
def offerB (l u r m : Nat) : Bool := mayC l u && decide (r ≤ 4611686018427387903) && decide (m ≤ 4611686018427387903) && decide (l < limC r m) && decide (m ≤ 2 * (limC r m - l))
def offerO (l u r m : Nat) : Nat := if offerB l u r m = true then limC r m else 0
/-- Two numbers as a structure's cells. -/
def crd (x : Nat × Nat) : Array Value := #[.int .u64 (x.1 : Int), .int .u64 (x.2 : Int)]
def idN (s o : Bool) (n : Nat) : Nat := if n ≤ 1152921504606846975 then 4 * n + (if s then 1 else 0) + (if o then 2 else 0) else 0
def idE (n : Nat) : Int := if n ≤ 1152921504606846975 then 0 else 1

theorem mayC_yes {l u : Nat} (h1 : l ≤ 4611686018427387903) (h2 : u ≤ l) : mayC l u = true := by
  unfold mayC; rw [decide_eq_true h1, decide_eq_true h2]; rfl
theorem mayC_out {l u : Nat} (h : mayC l u = true) : l ≤ 4611686018427387903 ∧ u ≤ l := by
  unfold mayC at h
  simpa using h
end Go.Proofs.Ytepkajaallcnmaa
