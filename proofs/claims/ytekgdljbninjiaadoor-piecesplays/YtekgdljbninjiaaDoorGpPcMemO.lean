/-
  Operations in memory: what is put, or how much is taken.
-/
import Derived.Test.YtekgdljbninjiaaDoorGp3
import Derived.Test.YtekgdljbninjiaaDoorGp1
import Derived.Test.YtekgdljbninjiaaDoorRows
namespace Go.Proofs.YtekgdljbninjiaaDoor
open Go Go.RowKit

structure OpV where
  at_ : Nat
  b : SL
  last : Bool
  take : Int
def OpV.cells (o : OpV) : Array Value := #[.int .u64 (o.at_ : Int), .slice o.b.a o.b.len o.b.cap, .bool o.last, .int .i64 o.take]
structure OpV.Ok (w : World) (o : OpV) : Prop where
  b : o.b.Ok w
  at_ : o.at_ < 18446744073709551616
  lo : -9223372036854775808 ≤ o.take
  hi : o.take ≤ 9223372036854775807
def go (l : List OpV) (j : Nat) : OpV := l[j]?.getD ⟨0, ⟨none, 0, 0, 0, 0, []⟩, false, 0⟩
/-- A slice of operations, and what lies in it. -/
structure OL where
  a : Option Addr
  len : Nat
  cap : Nat
  g : Nat
  off : Nat
  l : List OpV
structure OL.Ok (w : World) (s : OL) : Prop where
  hb : s.l.length = s.len
  hcap : s.len ≤ s.cap
  nil : s.a = none → s.len = 0 ∧ s.cap = 0
  at_ : 0 < s.len → s.a = some ⟨s.g, s.off, none⟩
  lt : 0 < s.len → s.g < w.heap.size
  cell : ∀ j : Nat, j < s.len → w.rangeAt s.g (s.off + j * 4) (go s.l j).cells.toList
  each : ∀ j : Nat, j < s.len → (go s.l j).Ok w
theorem rangeAt_same {w w' : World} {g off : Nat} {cs : List Value} (h : w.rangeAt g off cs) (hs : w'.heap[g]? = w.heap[g]?) : w'.rangeAt g off cs := fun i u hu => (World.cell?_of_block (a := ⟨g, off + i, none⟩) hs).trans (h i u hu)
theorem OL.Ok.below {w w' : World} {s : OL} (h : s.Ok w) (hb : Below w.heap.size w w') : s.Ok w' :=
  ⟨h.hb, h.hcap, h.nil, h.at_, fun p => Nat.lt_of_lt_of_le (h.lt p) hb.size, fun j hj => rangeAt_same (h.cell j hj) (hb.block _ (h.lt (by omega))), fun j hj => ⟨(h.each j hj).b.below hb, (h.each j hj).at_, (h.each j hj).lo, (h.each j hj).hi⟩⟩
end Go.Proofs.YtekgdljbninjiaaDoor
