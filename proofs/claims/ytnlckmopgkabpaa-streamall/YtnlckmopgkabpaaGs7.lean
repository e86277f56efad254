/-
  Out of ChaSl, ChaSame, FrMem.
-/
import Derived.Test.YtnlckmopgkabpaaGs1
import Derived.Test.YtnlckmopgkabpaaGsShaIn
import Derived.Lib.AppendZeros
import Derived.WalkKit
import Derived.WalkSpells
import Derived.WalkLawsBesides
import Derived.Test.YtnlckmopgkabpaaRows
import Derived.Test.YtnlckmopgkabpaaGs2
import Derived.BigRegion
import Derived.Test.YtnlckmopgkabpaaGsRgMem
import Derived.BigQuiet

/-! Slices of bytes, as the walks ask them. Written by mkcha.py. -/
namespace Go.Proofs.Ytnlckmopgkabpaa
open Go Go.RowKit

/-- A slice of bytes, and what lies in it. -/
structure SL where
  a : Option Addr
  len : Nat
  cap : Nat
  g : Nat
  off : Nat
  b : List By
def SL.v (s : SL) : Value := .slice s.a s.len s.cap
structure SL.Ok (w : World) (s : SL) : Prop where
  hb : s.b.length = s.len
  hcap : s.len ≤ s.cap
  nil : s.a = none → s.len = 0 ∧ s.cap = 0
  at_ : 0 < s.len → s.a = some ⟨s.g, s.off, none⟩
  lt : 0 < s.len → s.g < w.heap.size
  cell : ∀ j : Nat, j < s.len → w.cell? ⟨s.g, s.off + j, none⟩ = some (.int .u8 (v8 (gb s.b j)))
theorem SL.Ok.same {w w' : World} {s : SL} (h : s.Ok w) (hs : 0 < s.len → w'.heap[s.g]? = w.heap[s.g]?) (hz : w.heap.size ≤ w'.heap.size) : s.Ok w' :=
  ⟨h.hb, h.hcap, h.nil, h.at_, fun p => Nat.lt_of_lt_of_le (h.lt p) hz, fun j hj => (World.cell?_of_block (a := ⟨s.g, s.off + j, none⟩) (hs (by omega))).trans (h.cell j hj)⟩
theorem SL.Ok.below {w w' : World} {s : SL} (h : s.Ok w) (hb : Below w.heap.size w w') : s.Ok w' := h.same (fun p => hb.block _ (h.lt p)) hb.size
theorem SL.Ok.alloc {w : World} {s : SL} (h : s.Ok w) (o : Obj) : s.Ok (w.alloc o) := h.below ((Below.refl _ w).alloc (Nat.le_refl _) o)

/-- A row of the call's own, as a slice. -/
theorem SL.of_own {w : World} {base : Nat} {v : Value} {n : Nat} {xs : List By} (h : w.ownsRow base 5 1 v n (vb xs)) : ∃ s : SL, s.v = v ∧ s.len = n ∧ s.b = xs ∧ s.Ok w ∧ (0 < n → base ≤ s.g) := by
  have hl : xs.length = n := by have := h.1; rw [vb_length] at this; omega
  rcases h.2 with ⟨rfl, rfl⟩ | ⟨g, cap, cur, rfl, hg, hh, hn, _, _, _⟩
  · exact ⟨⟨none, 0, 0, 0, 0, xs⟩, rfl, rfl, rfl, ⟨hl, Nat.le_refl _, fun _ => ⟨rfl, rfl⟩, fun p => absurd p (Nat.lt_irrefl _), fun p => absurd p (Nat.lt_irrefl _), fun j hj => absurd hj (Nat.not_lt_zero _)⟩, fun p => absurd p (Nat.lt_irrefl _)⟩
  · refine ⟨⟨some ⟨g, 0, none⟩, n, cap, g, 0, xs⟩, rfl, rfl, rfl, ⟨hl, hn, fun e => (by simp at e), fun _ => rfl, fun _ => (Array.getElem?_eq_some_iff.1 hh).1, fun j hj => ?_⟩, fun _ => hg⟩
    have := h.cells (g := g) rfl j _ (vb_get xs j (by rw [hl]; exact hj))
    rw [add_off] at this
    rw [Nat.zero_add]
    exact this

section
variable {P : Program} {ops : Array Oper} {rest : List Oper} {o : Oper} {a : Act} {w : World} {Q : Exit → Act → World → Prop}
end
theorem own_low {w : World} {B B' n : Nat} {e : TypeId} {v : Value} {xs : List Value} (h : w.ownsRow B e 1 v n xs) (hB : B' ≤ B) : w.ownsRow B' e 1 v n xs := by
  obtain ⟨h1, h2⟩ := h
  refine ⟨h1, ?_⟩
  rcases h2 with h2 | ⟨g, c, cur, h3, h4, h5⟩
  · exact .inl h2
  · exact .inr ⟨g, c, cur, h3, Nat.le_trans hB h4, h5⟩
section
variable {P : Program} {a : Act} {w : World}
end
end Go.Proofs.Ytnlckmopgkabpaa

/-! What SameBytes answers of slices with the same bytes. -/
namespace Go.Proofs.Ytnlckmopgkabpaa
open Go Go.RowKit

end Go.Proofs.Ytnlckmopgkabpaa

/-! Ranges and frames in memory. -/
namespace Go.Proofs.Ytnlckmopgkabpaa
open Go Go.RowKit

/-- A frame, and the slices in it. -/
structure FrM where
  kind : Nat
  stream : Nat
  offset : Nat
  limit : Nat
  code : Nat
  fin : Bool
  data : SL
  ranges : RL
def FrM.cells (f : FrM) : Array Value := #[.int .u8 (f.kind : Int), .int .u64 (f.stream : Int), .int .u64 (f.offset : Int), .int .u64 (f.limit : Int), .int .u64 (f.code : Int), .bool f.fin, .slice f.data.a f.data.len f.data.cap, .slice f.ranges.a f.ranges.len f.ranges.cap]
def FrM.fr (f : FrM) : Fr.Frame := ⟨f.kind, f.stream, f.offset, f.limit, f.code, f.fin, f.data.b, f.ranges.l⟩
structure FrM.Ok (w : World) (f : FrM) : Prop where
  data : f.data.Ok w
  ranges : f.ranges.Ok w
  k8 : f.kind < 256
  st : f.stream < 18446744073709551616
  of : f.offset < 18446744073709551616
  li : f.limit < 18446744073709551616
  co : f.code < 18446744073709551616
theorem FrM.Ok.below {w w' : World} {f : FrM} (h : f.Ok w) (hb : Below w.heap.size w w') : f.Ok w' := ⟨h.data.below hb, h.ranges.below hb, h.k8, h.st, h.of, h.li, h.co⟩
theorem fr_cells {W : World} {g : Nat} {t : TypeId} {f : FrM} (r : Row W g t f.cells) : W.cell? ⟨g, 0, none⟩ = some (.int .u8 (f.kind : Int)) ∧ W.cell? ⟨g, 1, none⟩ = some (.int .u64 (f.stream : Int)) ∧ W.cell? ⟨g, 2, none⟩ = some (.int .u64 (f.offset : Int)) ∧ W.cell? ⟨g, 3, none⟩ = some (.int .u64 (f.limit : Int)) ∧ W.cell? ⟨g, 4, none⟩ = some (.int .u64 (f.code : Int)) ∧ W.cell? ⟨g, 5, none⟩ = some (.bool f.fin) ∧ W.cell? ⟨g, 6, none⟩ = some (.slice f.data.a f.data.len f.data.cap) ∧ W.cell? ⟨g, 7, none⟩ = some (.slice f.ranges.a f.ranges.len f.ranges.cap) :=
  ⟨r.cell 0, r.cell 1, r.cell 2, r.cell 3, r.cell 4, r.cell 5, r.cell 6, r.cell 7⟩

end Go.Proofs.Ytnlckmopgkabpaa
