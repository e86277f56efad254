/-
  Out of ShaWord, ShaArr, FrPlain, ShaHeld, ShaIn, ShaLoop, RgMem, RgVr.
-/
import Derived.Laws.BitsAllLaws
import Derived.WalkKit
import Derived.WalkSpells
import Derived.WalkLawsBesides
import Derived.Deep.WholeRow
import Derived.Laws.ResultCell
import Derived.OrdersHeld
import Derived.Deep.MidRow
import Derived.RangeFuncNested
import Derived.RangeFuncBox
import Derived.RangeFuncBound
import Derived.RangeFuncCalls
import Derived.RangeFuncLeaves
import Derived.Shelf.Abstract
import Derived.Shelf.RegionOpen
import Derived.OwnWalkIn
import Derived.TacticsInMore
import Derived.LoopNIn
import Derived.LoopIn
import Derived.Maps.AppendAt
import Derived.Test.YtohoieleakieeaaGreatDoorRows
import Derived.BigQuiet

/-! Words of 32 bits, and the numbers that memory holds of them: no program in sight. -/
namespace Go.Proofs.YtohoieleakieeaaGreatDoor
open Go

abbrev Wd := BitVec 32

/-- A word as the number that memory holds. -/
def u (x : Wd) : Int := (x.toNat : Int)
theorem u_nn (x : Wd) : 0 ≤ u x := by unfold u; omega
theorem u_le (x : Wd) : u x ≤ 4294967295 := by have := x.isLt; unfold u; omega
def xr (a b : Wd) : Wd := a ^^^ b
def oo (a b : Wd) : Wd := a ||| b
def ad (a b : Wd) : Wd := a + b
def sr (x : Wd) (n : Nat) : Wd := x >>> n
def sl (x : Wd) (n : Nat) : Wd := x <<< n
theorem u_nat (x : Wd) : (u x).toNat = x.toNat := by unfold u; omega
theorem bx (a b : Wd) : bits .xor .u32 (u a) (u b) = u (xr a b) := by
  rw [u32_xor _ _ (u_nn a) (by have := u_le a; omega) (u_nn b) (by have := u_le b; omega), u_nat, u_nat]
  unfold u xr
  rw [BitVec.toNat_xor]
end Go.Proofs.YtohoieleakieeaaGreatDoor

/-! Rows of words and bytes in memory: a block that holds a list, whole. -/
namespace Go.Proofs.YtohoieleakieeaaGreatDoor
open Go Go.RowKit

abbrev By := BitVec 8
/-- A byte as the number that memory holds. -/
def v8 (x : By) : Int := (x.toNat : Int)
def bs (xs : List By) : Array Value := (xs.map fun x => Value.int .u8 (v8 x)).toArray
/-- The j-th. -/
def gw (xs : List Wd) (j : Nat) : Wd := xs[j]?.getD 0
def gb (xs : List By) (j : Nat) : By := xs[j]?.getD 0
/-- The block g holds the cells cs, whole, and may be written. -/
def Row (w : World) (g : Nat) (t : TypeId) (cs : Array Value) : Prop := w.heap[g]? = some (.cells cs t (0, 0))

theorem Row.lt {w : World} {g : Nat} {t : TypeId} {cs : Array Value} (h : Row w g t cs) : g < w.heap.size := (Array.getElem?_eq_some_iff.1 h).1
theorem Row.cell {w : World} {g : Nat} {t : TypeId} {cs : Array Value} (h : Row w g t cs) (j : Nat) : w.cell? ⟨g, j, none⟩ = cs[j]? := cell_of_row w g j cs t (0, 0) h
theorem Row.frozen {w : World} {g : Nat} {t : TypeId} {cs : Array Value} (h : Row w g t cs) (j : Nat) : w.frozen? ⟨g, j, none⟩ = false := frozen_of_row w g j cs t h
theorem Row.new (w : World) (t : TypeId) (cs : Array Value) : Row (w.alloc (.cells cs t)) w.heap.size t cs := heap_alloc_new w _
theorem Row.alloc {w : World} {g : Nat} {t : TypeId} {cs : Array Value} (h : Row w g t cs) (o : Obj) : Row (w.alloc o) g t cs := (Below.heap_alloc w o g h.lt).trans h
theorem Row.drew {w : World} {g : Nat} {t : TypeId} {cs : Array Value} (h : Row w g t cs) : Row w.drew g t cs := h
theorem Row.set {w : World} {g : Nat} {t : TypeId} {cs : Array Value} (h : Row w g t cs) (j : Nat) (v : Value) : Row (w.setCell ⟨g, j, none⟩ v) g t (cs.setIfInBounds j v) := heap_setCell_same w g j cs t v h
theorem Row.other {w : World} {g : Nat} {t : TypeId} {cs : Array Value} (h : Row w g t cs) {a : Addr} (ha : g ≠ a.block) (v : Value) : Row (w.setCell a v) g t cs := (heap_setCell_other w a g v ha).trans h
theorem Row.below {w w' : World} {n g : Nat} {t : TypeId} {cs : Array Value} (h : Row w g t cs) (hb : Below n w w') (hg : g < n) : Row w' g t cs := (hb.block g hg).trans h
theorem Row.put {w : World} {g : Nat} {t : TypeId} {cs : Array Value} (h : Row w g t cs) (cs' : Array Value) : Row (w.setRow g cs') g t cs' := setRow_heap w g cs cs' t (0, 0) h
/-- Where a row lies that was made one, two, three blocks ago. -/
theorem Row.new1 (w : World) (o : Obj) (t : TypeId) (cs : Array Value) : Row ((w.alloc o).alloc (.cells cs t)) (w.heap.size + 1) t cs := by
  have := Row.new (w.alloc o) t cs
  rw [World.size_alloc] at this
  exact this
section
variable {P : Program}
end
theorem add_at (g o j : Nat) : (⟨g, o, none⟩ : Addr).add j = ⟨g, o + j, none⟩ := by
  unfold Addr.add
  split
  · rename_i h; rw [h]; rfl
  · rfl
end Go.Proofs.YtohoieleakieeaaGreatDoor

/-! Frames as bytes, on lists: what was put is got; what was got may be put; what is cut off is short. No program in sight. -/
namespace Go.Proofs.YtohoieleakieeaaGreatDoor.Fr
open Go

/-! ### Numbers -/
def szN (n : Nat) : Nat := if n < 64 then 1 else if n < 16384 then 2 else if n < 1073741824 then 4 else 8
def beN (x : Nat) : Nat → List By
  | 0 => []
  | k + 1 => BitVec.ofNat 8 (x / 256 ^ k) :: beN x k
def pfN (n : Nat) : Nat := if n < 64 then 0 else if n < 16384 then 16384 else if n < 1073741824 then 2147483648 else 13835058055282163712
def numL (n : Nat) : List By := beN (n + pfN n) (szN n)
/-! ### Reading -/
def R (α : Type) : Type := List By → Except Nat (α × List By)
/-! ### Frames -/
structure Frame where
  kind : Nat
  stream : Nat
  offset : Nat
  limit : Nat
  code : Nat
  fin : Bool
  data : List By
  ranges : List (Nat × Nat)
def f0 : Frame := ⟨0, 0, 0, 0, 0, false, [], []⟩
/-- Ranges that are a set. -/
def setL : List (Nat × Nat) → Prop
  | [] => True
  | [(a, b)] => a ≤ b ∧ b ≤ 4611686018427387903
  | (a, b) :: (c, d) :: r => a ≤ b ∧ b ≤ 4611686018427387903 ∧ b + 1 < c ∧ setL ((c, d) :: r)
def bareF (f : Frame) (st off lim co fi da ra : Bool) : Prop :=
  (st = true ∨ f.stream = 0) ∧ (off = true ∨ f.offset = 0) ∧ (lim = true ∨ f.limit = 0) ∧ (co = true ∨ f.code = 0) ∧ (fi = true ∨ f.fin = false) ∧ (da = true ∨ f.data = []) ∧ (ra = true ∨ f.ranges = [])
def numsF (f : Frame) : Prop :=
  f.stream ≤ 4611686018427387903 ∧ f.offset ≤ 4611686018427387903 ∧ f.limit ≤ 4611686018427387903 ∧ f.code ≤ 4611686018427387903 ∧ f.offset + f.data.length ≤ 4611686018427387903
def mayF (f : Frame) : Prop := numsF f ∧
  match f.kind with
  | 1 => bareF f false false true false false false false ∧ 1 ≤ f.limit ∧ f.limit ≤ 65536
  | 2 => bareF f false false false false false false false
  | 3 => bareF f false false true false false false true ∧ f.ranges ≠ [] ∧ f.ranges.length ≤ 64 ∧ setL f.ranges
  | 4 => bareF f true false true true false false false
  | 5 => bareF f true false false true false false false
  | 6 => bareF f false true false false false true false
  | 7 => bareF f true true false false true true false
  | 8 => bareF f false false true false false false false
  | 9 => bareF f true false true false false false false
  | 10 => bareF f false false true false true false false ∧ f.limit ≤ 1152921504606846976
  | 11 => bareF f false false true false false false false
  | 12 => bareF f true false true false false false false
  | 13 => bareF f false false false true true true false
  | 14 => bareF f false false false false false false false
  | _ => False

/-- The ranges of an answer, from the last one back. -/
def ackT : Nat → List (Nat × Nat) → List By
  | _, [] => []
  | from_, (a, b) :: r => numL (from_ - b - 2) ++ (numL (b - a) ++ ackT a r)
def ackB (lim : Nat) : List (Nat × Nat) → List By
  | [] => []
  | (a, b) :: r => numL b ++ (numL lim ++ (numL r.length ++ (numL (b - a) ++ ackT a r)))
def sizedL (d : List By) : List By := numL d.length ++ d
def putF (f : Frame) : List By :=
  match f.kind with
  | 1 => List.replicate f.limit 0
  | 2 => numL 1
  | 3 => numL 2 ++ ackB f.limit f.ranges.reverse
  | 4 => numL 4 ++ (numL f.stream ++ (numL f.code ++ numL f.limit))
  | 5 => numL 5 ++ (numL f.stream ++ numL f.code)
  | 6 => numL 6 ++ (numL f.offset ++ sizedL f.data)
  | 7 => numL ((if 0 < f.offset then 14 else 10) + (if f.fin then 1 else 0)) ++ (numL f.stream ++ ((if 0 < f.offset then numL f.offset else []) ++ sizedL f.data))
  | 8 => numL 16 ++ numL f.limit
  | 9 => numL 17 ++ (numL f.stream ++ numL f.limit)
  | 10 => numL (18 + (if f.fin then 1 else 0)) ++ numL f.limit
  | 11 => numL 20 ++ numL f.limit
  | 12 => numL 21 ++ (numL f.stream ++ numL f.limit)
  | 13 => numL (28 + (if f.fin then 1 else 0)) ++ (numL f.code ++ ((if f.fin then [] else numL 0) ++ sizedL f.data))
  | _ => numL 30

/-! ### What was put is got -/
/-! ### All frames -/
def more (f : Frame) : Frame := { f with limit := f.limit + 1 }
/-! What is read gets less. -/
/-! What was put is got. -/
/-! ### What was got may be put -/
/-- What a body tells may be; its bytes are no more than those that were read, but for one without a length. -/
def Told (k : Nat) (b : List By) (f : Frame) (b' : List By) : Prop := mayF f ∧ ((putF f).length + b'.length ≤ szN k + b.length ∨ b' = [] ∧ (putF f).length ≤ szN k + b.length + 8) ∧ (f.kind = 1 → k = 0)
/-! ### The last byte is missing -/
/-! ### An answer -/
end Go.Proofs.YtohoieleakieeaaGreatDoor.Fr

/-! A region that draws its order: whole arrays are loaded first, then what calls, then what stores: laws for a walk by hand. -/
namespace Go.Proofs.YtohoieleakieeaaGreatDoor
open Go Go.RowKit

section
variable {P : Program} {ops : Array Oper} {Q : Exit → Act → World → Prop} {md : Region.Mode} {S : World → Prop} {fuel : Nat} {listed : Array Bool} {a : Act} {w : World}

end
end Go.Proofs.YtohoieleakieeaaGreatDoor

/-! Whole arrays inside a fence: laws of the walk. -/
namespace Go.Proofs.YtohoieleakieeaaGreatDoor
open Go Go.RowKit

section
variable {F : Fence} {n : Nat} {P : Program} {ops : Array Oper} {rest : List Oper} {o : Oper} {a : Act} {w : World} {Q : Exit → Act → World → Prop}

theorem about_none (h : ∀ c, o.op ≠ .call c) : o.about P w a.eval = none := by
  unfold Oper.about
  split
  · rename_i c hc; exact absurd hc (h c)
  · rfl

end
end Go.Proofs.YtohoieleakieeaaGreatDoor

/-! A range over a function whose iterator writes into memory of its own between two rounds, and whose body writes one block alone and is never left early. -/
namespace Go.Proofs.YtohoieleakieeaaGreatDoor
open Go Go.RowKit Go.Shelf

theorem veil {p : Prop} (h : p) : Hid p := h
/-- All blocks but one lie as they lay. -/
structure Keep1 (st : Nat) (W W' : World) : Prop where
  os : W'.os = W.os
  tape : W'.tape = W.tape
  output : W'.output = W.output
  size : W.heap.size ≤ W'.heap.size
  block : ∀ k, k < W.heap.size → k ≠ st → W'.heap[k]? = W.heap[k]?

theorem Keep1.refl (st : Nat) (W : World) : Keep1 st W W := ⟨rfl, rfl, rfl, Nat.le_refl _, fun _ _ _ => rfl⟩
theorem Keep1.trans {st : Nat} {A B C : World} (h : Keep1 st A B) (k : Keep1 st B C) : Keep1 st A C :=
  ⟨k.os.trans h.os, k.tape.trans h.tape, k.output.trans h.output, Nat.le_trans h.size k.size, fun i hi hs => (k.block i (Nat.lt_of_lt_of_le hi h.size) hs).trans (h.block i hi hs)⟩
theorem Keep1.of_below {st : Nat} {W W' : World} (h : Below W.heap.size W W') : Keep1 st W W' := ⟨h.os, h.tape, h.output, h.size, fun k hk _ => h.block k hk⟩
theorem Keep1.setRow (st : Nat) (W : World) (cs : Array Value) : Keep1 st W (W.setRow st cs) := ⟨rfl, rfl, rfl, by rw [setRow_size]; exact Nat.le_refl _, fun k _ hk => setRow_other W st k cs hk⟩
theorem Keep1.below {st B : Nat} {W W' : World} (h : Keep1 st W W') (hB : B ≤ st) (hs : B ≤ W.heap.size) : Below B W W' := ⟨h.os, h.tape, h.output, h.size, fun k hk => h.block k (by omega) (by omega)⟩
theorem Keep1.row {st g : Nat} {W W' : World} {t : TypeId} {cs : Array Value} (h : Keep1 st W W') (hr : Row W g t cs) (hg : g ≠ st) : Row W' g t cs := (h.block g hr.lt hg).trans hr
section
variable {F : Fence} {n : Nat} {P : Program}

end
theorem Keep1.cell {st g o : Nat} {W W' : World} (h : Keep1 st W W') (hg : g < W.heap.size) (hne : g ≠ st) : W'.cell? ⟨g, o, none⟩ = W.cell? ⟨g, o, none⟩ := World.cell?_of_block (w := W) (h.block g hg hne)
end Go.Proofs.YtohoieleakieeaaGreatDoor

/-! Ranges in memory. -/
namespace Go.Proofs.YtohoieleakieeaaGreatDoor
open Go Go.RowKit

def gr (l : List (Nat × Nat)) (j : Nat) : Nat × Nat := l[j]?.getD (0, 0)
/-- A slice of ranges, and what lies in it. -/
structure RL where
  a : Option Addr
  len : Nat
  cap : Nat
  g : Nat
  off : Nat
  l : List (Nat × Nat)
structure RL.Ok (w : World) (s : RL) : Prop where
  hb : s.l.length = s.len
  hcap : s.len ≤ s.cap
  nil : s.a = none → s.len = 0 ∧ s.cap = 0
  at_ : 0 < s.len → s.a = some ⟨s.g, s.off, none⟩
  lt : 0 < s.len → s.g < w.heap.size
  cell : ∀ j : Nat, j < s.len → w.cell? ⟨s.g, s.off + j * 2, none⟩ = some (.int .u64 ((gr s.l j).1 : Int)) ∧ w.cell? ⟨s.g, s.off + j * 2 + 1, none⟩ = some (.int .u64 ((gr s.l j).2 : Int))
  small : ∀ j, (gr s.l j).1 < 18446744073709551616 ∧ (gr s.l j).2 < 18446744073709551616
theorem RL.Ok.same {w w' : World} {s : RL} (h : s.Ok w) (hs : 0 < s.len → w'.heap[s.g]? = w.heap[s.g]?) (hz : w.heap.size ≤ w'.heap.size) : s.Ok w' :=
  ⟨h.hb, h.hcap, h.nil, h.at_, fun p => Nat.lt_of_lt_of_le (h.lt p) hz, fun j hj => ⟨(World.cell?_of_block (a := ⟨s.g, s.off + j * 2, none⟩) (hs (by omega))).trans (h.cell j hj).1, (World.cell?_of_block (a := ⟨s.g, s.off + j * 2 + 1, none⟩) (hs (by omega))).trans (h.cell j hj).2⟩, h.small⟩
theorem RL.Ok.below {w w' : World} {s : RL} (h : s.Ok w) (hb : Below w.heap.size w w') : s.Ok w' := h.same (fun p => hb.block _ (h.lt p)) hb.size


end Go.Proofs.YtohoieleakieeaaGreatDoor

/-! Ranges in a row of the call's own. -/
namespace Go.Proofs.YtohoieleakieeaaGreatDoor
open Go Go.RowKit

def vr (l : List (Nat × Nat)) : List Value := l.flatMap fun r => [Value.int .u64 (r.1 : Int), .int .u64 (r.2 : Int)]
def rC2 (r : Nat × Nat) : Array Value := #[.int .u64 (r.1 : Int), .int .u64 (r.2 : Int)]
theorem vr_length (l : List (Nat × Nat)) : (vr l).length = 2 * l.length := by
  induction l with
  | nil => rfl
  | cons r l ih =>
    rw [vr, List.flatMap_cons, List.length_append, List.length_cons]
    have : (l.flatMap fun r => [Value.int .u64 (r.1 : Int), .int .u64 (r.2 : Int)]).length = 2 * l.length := ih
    rw [this]
    simp only [List.length_cons, List.length_nil]
    omega
theorem vr_cons (r : Nat × Nat) (l : List (Nat × Nat)) : vr (r :: l) = .int .u64 (r.1 : Int) :: .int .u64 (r.2 : Int) :: vr l := rfl
theorem vr_append (a b : List (Nat × Nat)) : vr (a ++ b) = vr a ++ vr b := by unfold vr; rw [List.flatMap_append]
theorem vr_at : ∀ (l : List (Nat × Nat)) (j : Nat), j < l.length → (vr l)[j * 2]? = some (.int .u64 ((gr l j).1 : Int)) ∧ (vr l)[j * 2 + 1]? = some (.int .u64 ((gr l j).2 : Int))
  | [], _, h => absurd h (Nat.not_lt_zero _)
  | r :: l, 0, _ => ⟨rfl, rfl⟩
  | r :: l, j + 1, h => by
    have h2 := vr_at l j (by simpa using h)
    have e : gr (r :: l) (j + 1) = gr l j := by simp [gr]
    rw [e, vr_cons, show (j + 1) * 2 = j * 2 + 1 + 1 by omega, show j * 2 + 1 + 1 + 1 = (j * 2 + 1) + 1 + 1 by omega, List.getElem?_cons_succ, List.getElem?_cons_succ, List.getElem?_cons_succ, List.getElem?_cons_succ]
    exact h2
theorem vr_set : ∀ (l : List (Nat × Nat)) (j : Nat) (r : Nat × Nat), j < l.length → vr (l.set j r) = ((vr l).set (j * 2) (.int .u64 (r.1 : Int))).set (j * 2 + 1) (.int .u64 (r.2 : Int))
  | [], _, _, h => absurd h (Nat.not_lt_zero _)
  | q :: l, 0, r, _ => rfl
  | q :: l, j + 1, r, h => by
    rw [List.set_cons_succ, vr_cons, vr_set l j r (by simpa using h), vr_cons, show (j + 1) * 2 = j * 2 + 1 + 1 by omega, show j * 2 + 1 + 1 + 1 = (j * 2 + 1) + 1 + 1 by omega, List.set_cons_succ, List.set_cons_succ, List.set_cons_succ, List.set_cons_succ]
/-- One cell of a row of the call's own is written. -/
theorem own_cellS {w : World} {base n g cap k z : Nat} {e : TypeId} {xs : List Value} (h : w.ownsRow base e z (.slice (some ⟨g, 0, none⟩) n cap) n xs) (u : Value) : (w.setCell ⟨g, k, none⟩ u).ownsRow base e z (.slice (some ⟨g, 0, none⟩) n cap) n (xs.set k u) := by
  obtain ⟨h1, h2⟩ := h
  refine ⟨by rw [List.length_set]; exact h1, ?_⟩
  rcases h2 with ⟨h3, _⟩ | ⟨g', c', cur, h3, h4, h5, h6, h7, h8, h9⟩
  · cases h3
  · injection h3 with e1 e2 e3
    injection e1 with e1
    injection e1 with e1
    subst e1 e3
    refine .inr ⟨g, cap, cur.setIfInBounds k u, rfl, h4, (show Row w g e cur from h5).set k u, h6, h7, by rw [Array.size_setIfInBounds]; exact h8, ?_⟩
    rw [Array.toList_setIfInBounds, List.take_set, h9]
theorem own_pair {w : World} {base n g cap j : Nat} {l : List (Nat × Nat)} (h : w.ownsRow base 63 2 (.slice (some ⟨g, 0, none⟩) n cap) n (vr l)) (r : Nat × Nat) (hj : j < n) (hl : l.length = n) : (w.setCells g (j * 2) (rC2 r).toList).ownsRow base 63 2 (.slice (some ⟨g, 0, none⟩) n cap) n (vr (l.set j r)) := by
  rw [vr_set l j r (by omega)]
  exact own_cellS (own_cellS h _) _
theorem own_range {w : World} {base n g cap : Nat} {l : List (Nat × Nat)} (h : w.ownsRow base 63 2 (.slice (some ⟨g, 0, none⟩) n cap) n (vr l)) (hl : l.length = n) (j : Nat) (hj : j < n) : w.rangeAt g (0 + j * 2) (rC2 (gr l j)).toList := by
  have hc := h.cells (g := g) rfl
  obtain ⟨a1, a2⟩ := vr_at l j (by omega)
  intro q v hv
  match q, hv with
  | 0, hv =>
    rw [← Option.some.inj hv]
    have := hc _ _ a1
    rw [add_at, Nat.zero_add] at this
    rw [Nat.zero_add, Nat.add_zero]
    exact this
  | 1, hv =>
    rw [← Option.some.inj hv]
    have := hc _ _ a2
    rw [add_at, Nat.zero_add] at this
    rw [Nat.zero_add]
    exact this
  | _ + 2, hv => simp [rC2] at hv
theorem own_there {w : World} {base n g cap : Nat} {l : List (Nat × Nat)} (h : w.ownsRow base 63 2 (.slice (some ⟨g, 0, none⟩) n cap) n (vr l)) (hl : l.length = n) (j : Nat) (hj : j < n) : w.there g (0 + j * 2) 2 := by
  have hr := own_range h hl j hj
  rcases h.2 with ⟨h3, _⟩ | ⟨g', c', cur, h3, h4, h5, h6, h7, h8, h9⟩
  · cases h3
  · injection h3 with e1 e2 e3
    injection e1 with e1
    injection e1 with e1
    subst e1 e3
    intro q hq
    refine ⟨?_, (show Row w g 63 cur from h5).frozen _⟩
    match q, hq with
    | 0, _ => rw [hr 0 _ rfl]; rfl
    | 1, _ => rw [hr 1 _ rfl]; rfl
    | _ + 2, hq => omega
theorem Tryz.infoRangeV : (Tryz.prog.info? 63).map (fun i => (i.zero, i.size, i.bytes)) = some (some (.agg (rC2 (0, 0))), 2, 16) := by kernel_rfl
theorem range_info : ∃ i0, Tryz.prog.info? 63 = some i0 ∧ i0.zero = some (.agg (rC2 (0, 0))) ∧ i0.size = 2 ∧ i0.bytes = 16 := by
  have h := Tryz.infoRangeV
  cases hq : Tryz.prog.info? 63 with
  | none => rw [hq] at h; cases h
  | some i =>
    rw [hq] at h
    simp only [Option.map_some, Option.some.injEq, Prod.mk.injEq] at h
    exact ⟨i, rfl, h.1, h.2.1, h.2.2⟩
theorem own_below2 {w w' : World} {B n z : Nat} {e : TypeId} {v : Value} {xs : List Value} (h : w.ownsRow B e z v n xs) (hb : Below w.heap.size w w') : w'.ownsRow B e z v n xs :=
  h.kept (row := none) ⟨hb.os, hb.tape, hb.output, hb.size, fun k hk _ => hb.block k hk⟩ (Classical.em _)
theorem own_low2 {w : World} {B B' n z : Nat} {e : TypeId} {v : Value} {xs : List Value} (h : w.ownsRow B e z v n xs) (hB : B' ≤ B) : w.ownsRow B' e z v n xs := by
  obtain ⟨h1, h2⟩ := h
  refine ⟨h1, ?_⟩
  rcases h2 with h2 | ⟨g, c, cur, h3, h4, h5⟩
  · exact .inl h2
  · exact .inr ⟨g, c, cur, h3, Nat.le_trans hB h4, h5⟩
theorem rl_own {w : World} {base n g cap : Nat} {l : List (Nat × Nat)} (h : w.ownsRow base 63 2 (.slice (some ⟨g, 0, none⟩) n cap) n (vr l)) (hl : l.length = n) (hs : ∀ j, (gr l j).1 < 18446744073709551616 ∧ (gr l j).2 < 18446744073709551616) : RL.Ok w ⟨some ⟨g, 0, none⟩, n, cap, g, 0, l⟩ := by
  refine ⟨hl, ?_, (fun e => by cases e), fun _ => rfl, fun _ => (h.lt g rfl).2, fun j hj => ?_, hs⟩
  · rcases h.2 with ⟨h3, _⟩ | ⟨g', c', cur, h3, h4, h5, h6, _⟩
    · cases h3
    · injection h3 with e1 e2 e3
      subst e3
      exact h6
  · have := own_range h hl j hj
    exact ⟨this 0 _ rfl, this 1 _ rfl⟩
end Go.Proofs.YtohoieleakieeaaGreatDoor
