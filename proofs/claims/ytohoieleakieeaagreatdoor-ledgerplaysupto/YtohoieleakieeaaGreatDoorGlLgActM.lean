/-
  Acts in memory.
-/
import Derived.Test.YtohoieleakieeaaGreatDoorGl7
namespace Go.Proofs.YtohoieleakieeaaGreatDoor
open Go Go.RowKit

structure AM where
  kind : Nat
  num : Nat
  size : Int
  asks : Bool
  ranges : RL
  delay : Nat
  now : Nat
def AM.cells (a : AM) : Array Value := #[.int .u8 (a.kind : Int), .int .u64 (a.num : Int), .int .i64 a.size, .bool a.asks, .slice a.ranges.a a.ranges.len a.ranges.cap, .int .u64 (a.delay : Int), .int .u64 (a.now : Int)]
structure AM.Ok (w : World) (a : AM) : Prop where
  ranges : a.ranges.Ok w
  kind : a.kind < 256
  num : a.num < 18446744073709551616
  delay : a.delay < 18446744073709551616
  now : a.now < 18446744073709551616
  size : -9223372036854775808 ≤ a.size ∧ a.size ≤ 9223372036854775807
theorem AM.Ok.below {w w' : World} {a : AM} (h : a.Ok w) (hb : Below w.heap.size w w') : a.Ok w' := ⟨h.ranges.below hb, h.kind, h.num, h.delay, h.now, h.size⟩
def am0 : AM := ⟨0, 0, 0, false, ⟨none, 0, 0, 0, 0, []⟩, 0, 0⟩
def ga (l : List AM) (j : Nat) : AM := l[j]?.getD am0
structure AS where
  a : Option Addr
  len : Nat
  cap : Nat
  g : Nat
  off : Nat
  l : List AM
structure AS.Ok (w : World) (s : AS) : Prop where
  hb : s.l.length = s.len
  hcap : s.len ≤ s.cap
  nil : s.a = none → s.len = 0 ∧ s.cap = 0
  at_ : 0 < s.len → s.a = some ⟨s.g, s.off, none⟩
  lt : 0 < s.len → s.g < w.heap.size
  cell : ∀ j : Nat, j < s.len → w.rangeAt s.g (s.off + j * 7) (ga s.l j).cells.toList
  each : ∀ j : Nat, j < s.len → (ga s.l j).Ok w
theorem AS.Ok.below {w w' : World} {s : AS} (h : s.Ok w) (hb : Below w.heap.size w w') : s.Ok w' :=
  ⟨h.hb, h.hcap, h.nil, h.at_, fun p => Nat.lt_of_lt_of_le (h.lt p) hb.size, fun j hj i v hv => (hb.cell (p := ⟨s.g, s.off + j * 7 + i, none⟩) (h.lt (by omega))).trans (h.cell j hj i v hv), fun j hj => (h.each j hj).below hb⟩
end Go.Proofs.YtohoieleakieeaaGreatDoor
