/-
  Ranges in memory.
-/
import Derived.Test.YtnlckmopgkabpaaGsFrPlain
import Derived.Test.YtnlckmopgkabpaaGs2
import Derived.Test.YtnlckmopgkabpaaRows
import Derived.BigQuiet
namespace Go.Proofs.Ytnlckmopgkabpaa
open Go Go.RowKit

def gr (l : List (Nat × Nat)) (j : Nat) : Nat × Nat := l[j]?.getD (0, 0)
/-- A slice of ranges, and what lies in it. -/
structure RL where
  a : Option Addr
  len : Nat
  cap : Nat
  g : Nat
  off : Nat
  l : List (Nat × Nat)
structure RL.Ok (w : World) (s : RL) : Prop where
  hb : s.l.length = s.len
  hcap : s.len ≤ s.cap
  nil : s.a = none → s.len = 0 ∧ s.cap = 0
  at_ : 0 < s.len → s.a = some ⟨s.g, s.off, none⟩
  lt : 0 < s.len → s.g < w.heap.size
  cell : ∀ j : Nat, j < s.len → w.cell? ⟨s.g, s.off + j * 2, none⟩ = some (.int .u64 ((gr s.l j).1 : Int)) ∧ w.cell? ⟨s.g, s.off + j * 2 + 1, none⟩ = some (.int .u64 ((gr s.l j).2 : Int))
  small : ∀ j, (gr s.l j).1 < 18446744073709551616 ∧ (gr s.l j).2 < 18446744073709551616
theorem RL.Ok.same {w w' : World} {s : RL} (h : s.Ok w) (hs : 0 < s.len → w'.heap[s.g]? = w.heap[s.g]?) (hz : w.heap.size ≤ w'.heap.size) : s.Ok w' :=
  ⟨h.hb, h.hcap, h.nil, h.at_, fun p => Nat.lt_of_lt_of_le (h.lt p) hz, fun j hj => ⟨(World.cell?_of_block (a := ⟨s.g, s.off + j * 2, none⟩) (hs (by omega))).trans (h.cell j hj).1, (World.cell?_of_block (a := ⟨s.g, s.off + j * 2 + 1, none⟩) (hs (by omega))).trans (h.cell j hj).2⟩, h.small⟩
theorem RL.Ok.below {w w' : World} {s : RL} (h : s.Ok w) (hb : Below w.heap.size w w') : s.Ok w' := h.same (fun p => hb.block _ (h.lt p)) hb.size


end Go.Proofs.Ytnlckmopgkabpaa
