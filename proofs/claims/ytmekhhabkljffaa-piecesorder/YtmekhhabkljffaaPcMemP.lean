/-
  Parts in memory: where a piece begins, how long it is, how much is taken.
-/
import Derived.Test.YtmekhhabkljffaaShaLoop
import Derived.Test.YtmekhhabkljffaaRows
namespace Go.Proofs.Ytmekhhabkljffaa
open Go Go.RowKit

structure Part where
  at_ : Nat
  n : Nat
  take : Nat
def gp (l : List Part) (j : Nat) : Part := l[j]?.getD ⟨0, 0, 0⟩
/-- A slice of parts, and what lies in it. -/
structure PL where
  a : Option Addr
  len : Nat
  cap : Nat
  g : Nat
  off : Nat
  l : List Part
structure PL.Ok (w : World) (s : PL) : Prop where
  hb : s.l.length = s.len
  hcap : s.len ≤ s.cap
  nil : s.a = none → s.len = 0 ∧ s.cap = 0
  at_ : 0 < s.len → s.a = some ⟨s.g, s.off, none⟩
  lt : 0 < s.len → s.g < w.heap.size
  cell : ∀ j : Nat, j < s.len → w.cell? ⟨s.g, s.off + j * 3, none⟩ = some (.int .u16 ((gp s.l j).at_ : Int)) ∧ w.cell? ⟨s.g, s.off + j * 3 + 1, none⟩ = some (.int .u16 ((gp s.l j).n : Int)) ∧ w.cell? ⟨s.g, s.off + j * 3 + 2, none⟩ = some (.int .u8 ((gp s.l j).take : Int))
  small : ∀ j, (gp s.l j).at_ < 65536 ∧ (gp s.l j).n < 65536 ∧ (gp s.l j).take < 256
theorem PL.Ok.same {w w' : World} {s : PL} (h : s.Ok w) (hs : 0 < s.len → w'.heap[s.g]? = w.heap[s.g]?) (hz : w.heap.size ≤ w'.heap.size) : s.Ok w' :=
  ⟨h.hb, h.hcap, h.nil, h.at_, fun p => Nat.lt_of_lt_of_le (h.lt p) hz, fun j hj => ⟨(World.cell?_of_block (a := ⟨s.g, s.off + j * 3, none⟩) (hs (by omega))).trans (h.cell j hj).1, (World.cell?_of_block (a := ⟨s.g, s.off + j * 3 + 1, none⟩) (hs (by omega))).trans (h.cell j hj).2.1, (World.cell?_of_block (a := ⟨s.g, s.off + j * 3 + 2, none⟩) (hs (by omega))).trans (h.cell j hj).2.2⟩, h.small⟩
theorem PL.Ok.below {w w' : World} {s : PL} (h : s.Ok w) (hb : Below w.heap.size w w') : s.Ok w' := h.same (fun p => hb.block _ (h.lt p)) hb.size
end Go.Proofs.Ytmekhhabkljffaa
