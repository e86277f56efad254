/-
  Out of ShaWord, ShaArr, FrPlain, ShaHeld, ShaIn, ShaLoop, RgMem, RgVr, HkIn, PlInv, AeInv, AeVals, AeVals2, RgGuard.
-/
import Derived.Laws.BitsAllLaws
import Derived.WalkKit
import Derived.WalkSpells
import Derived.WalkLawsBesides
import Derived.Deep.WholeRow
import Derived.Laws.ResultCell
import Derived.OrdersHeld
import Derived.Deep.MidRow
import Derived.RangeFuncNested
import Derived.RangeFuncBox
import Derived.RangeFuncBound
import Derived.RangeFuncCalls
import Derived.RangeFuncLeaves
import Derived.Shelf.Abstract
import Derived.Shelf.RegionOpen
import Derived.OwnWalkIn
import Derived.TacticsInMore
import Derived.LoopNIn
import Derived.LoopIn
import Derived.Maps.AppendAt
import Derived.Test.YtehadfidenejdaaGreatDoorRows
import Derived.BigQuiet
import Derived.OrdersIn

/-! Words of 32 bits, and the numbers that memory holds of them: no program in sight. -/
namespace Go.Proofs.YtehadfidenejdaaGreatDoor
open Go

abbrev Wd := BitVec 32

/-- A word as the number that memory holds. -/
def u (x : Wd) : Int := (x.toNat : Int)
theorem u_nn (x : Wd) : 0 ≤ u x := by unfold u; omega
theorem u_le (x : Wd) : u x ≤ 4294967295 := by have := x.isLt; unfold u; omega
/-- The word of a number. -/
def wd (z : Int) : Wd := BitVec.ofNat 32 z.toNat
def xr (a b : Wd) : Wd := a ^^^ b
def an (a b : Wd) : Wd := a &&& b
def oo (a b : Wd) : Wd := a ||| b
def nt (a : Wd) : Wd := ~~~a
def ad (a b : Wd) : Wd := a + b
def sb (a b : Wd) : Wd := a - b
def sr (x : Wd) (n : Nat) : Wd := x >>> n
def sl (x : Wd) (n : Nat) : Wd := x <<< n
/-- Turned right by n bits. -/
def rr (x : Wd) (n : Nat) : Wd := oo (sr x n) (sl x (32 - n))

theorem u_nat (x : Wd) : (u x).toNat = x.toNat := by unfold u; omega
theorem bx (a b : Wd) : bits .xor .u32 (u a) (u b) = u (xr a b) := by
  rw [u32_xor _ _ (u_nn a) (by have := u_le a; omega) (u_nn b) (by have := u_le b; omega), u_nat, u_nat]
  unfold u xr
  rw [BitVec.toNat_xor]
theorem ba (a b : Wd) : bits .and .u32 (u a) (u b) = u (an a b) := by
  rw [u32_and _ _ (u_nn a) (by have := u_le a; omega) (u_nn b) (by have := u_le b; omega), u_nat, u_nat]
  unfold u an
  rw [BitVec.toNat_and]
theorem bo (a b : Wd) : bits .or .u32 (u a) (u b) = u (oo a b) := by
  rw [u32_or _ _ (u_nn a) (by have := u_le a; omega) (u_nn b) (by have := u_le b; omega), u_nat, u_nat]
  unfold u oo
  rw [BitVec.toNat_or]
end Go.Proofs.YtehadfidenejdaaGreatDoor

/-! Rows of words and bytes in memory: a block that holds a list, whole. -/
namespace Go.Proofs.YtehadfidenejdaaGreatDoor
open Go Go.RowKit

abbrev By := BitVec 8
/-- A byte as the number that memory holds. -/
def v8 (x : By) : Int := (x.toNat : Int)
/-- The cells of words, of bytes, of numbers of 64 bits. -/
def ws (xs : List Wd) : Array Value := (xs.map fun x => Value.int .u32 (u x)).toArray
def bs (xs : List By) : Array Value := (xs.map fun x => Value.int .u8 (v8 x)).toArray
/-- The j-th. -/
def gw (xs : List Wd) (j : Nat) : Wd := xs[j]?.getD 0
def gb (xs : List By) (j : Nat) : By := xs[j]?.getD 0
theorem bs_get (xs : List By) (j : Nat) (h : j < xs.length) : (bs xs)[j]? = some (.int .u8 (v8 (gb xs j))) := by simp [bs, gb, h]
/-- The block g holds the cells cs, whole, and may be written. -/
def Row (w : World) (g : Nat) (t : TypeId) (cs : Array Value) : Prop := w.heap[g]? = some (.cells cs t (0, 0))

theorem Row.lt {w : World} {g : Nat} {t : TypeId} {cs : Array Value} (h : Row w g t cs) : g < w.heap.size := (Array.getElem?_eq_some_iff.1 h).1
theorem Row.cell {w : World} {g : Nat} {t : TypeId} {cs : Array Value} (h : Row w g t cs) (j : Nat) : w.cell? ⟨g, j, none⟩ = cs[j]? := cell_of_row w g j cs t (0, 0) h
theorem Row.frozen {w : World} {g : Nat} {t : TypeId} {cs : Array Value} (h : Row w g t cs) (j : Nat) : w.frozen? ⟨g, j, none⟩ = false := frozen_of_row w g j cs t h
theorem Row.new (w : World) (t : TypeId) (cs : Array Value) : Row (w.alloc (.cells cs t)) w.heap.size t cs := heap_alloc_new w _
theorem Row.alloc {w : World} {g : Nat} {t : TypeId} {cs : Array Value} (h : Row w g t cs) (o : Obj) : Row (w.alloc o) g t cs := (Below.heap_alloc w o g h.lt).trans h
theorem Row.drew {w : World} {g : Nat} {t : TypeId} {cs : Array Value} (h : Row w g t cs) : Row w.drew g t cs := h
theorem Row.set {w : World} {g : Nat} {t : TypeId} {cs : Array Value} (h : Row w g t cs) (j : Nat) (v : Value) : Row (w.setCell ⟨g, j, none⟩ v) g t (cs.setIfInBounds j v) := heap_setCell_same w g j cs t v h
theorem Row.other {w : World} {g : Nat} {t : TypeId} {cs : Array Value} (h : Row w g t cs) {a : Addr} (ha : g ≠ a.block) (v : Value) : Row (w.setCell a v) g t cs := (heap_setCell_other w a g v ha).trans h
theorem Row.below {w w' : World} {n g : Nat} {t : TypeId} {cs : Array Value} (h : Row w g t cs) (hb : Below n w w') (hg : g < n) : Row w' g t cs := (hb.block g hg).trans h
theorem Row.put {w : World} {g : Nat} {t : TypeId} {cs : Array Value} (h : Row w g t cs) (cs' : Array Value) : Row (w.setRow g cs') g t cs' := setRow_heap w g cs cs' t (0, 0) h
theorem bSetRow {B : Nat} {a w : World} (h : Below B a w) {g : Nat} (hg : B ≤ g) (cs : Array Value) : Below B a (w.setRow g cs) :=
  ⟨h.os, h.tape, h.output, by rw [setRow_size]; exact h.size, fun k hk => (setRow_other w g k cs (by omega)).trans (h.block k hk)⟩

/-- Where a row lies that was made one, two, three blocks ago. -/
theorem Row.new1 (w : World) (o : Obj) (t : TypeId) (cs : Array Value) : Row ((w.alloc o).alloc (.cells cs t)) (w.heap.size + 1) t cs := by
  have := Row.new (w.alloc o) t cs
  rw [World.size_alloc] at this
  exact this
section
variable {P : Program}
theorem wp_store_row {op : Oper} {a : Act} {w : World} {K : Act → World → Prop} {Q : Exit → Act → World → Prop} (ty : TypeId) (x y : Operand) (ho : op.op = .store ty x y)
    (g : Nat) (cs : Array Value) (hx : a.eval x = .pointer (some ⟨g, 0, none⟩)) (hy : a.eval y = .agg cs) (t : TypeId) (old : Array Value) (hg : Row w g t old)
    (hi : (P.info? ty).map (·.size) = some cs.size) (hs : old.size = cs.size) (h1 : cs.all (·.oneCell') = true)
    (h : K (a.put op.dst undef) (w.setRow g cs)) : op.wp P a w K Q := by
  unfold Oper.wp execOp
  simp only [ho, hx, hy, Instr.storeAt, Instr.sureAddr, Sem.run_bind, Sem.run_pure, Result.andThen_ok, run_storeVar_row w g t ty old cs hg hi hs h1]
  exact h

/-- A whole array is stored. -/
theorem store_row {ops : Array Oper} {rest : List Oper} {op : Oper} {a : Act} {w : World} {Q : Exit → Act → World → Prop} (hgd : op.guard = none) (ty : TypeId) (x y : Operand) (ho : op.op = .store ty x y)
    (g : Nat) (cs : Array Value) (hx : a.eval x = .pointer (some ⟨g, 0, none⟩)) (hy : a.eval y = .agg cs) (t : TypeId) (old : Array Value) (hg : Row w g t old)
    (n : Nat) (hi : (P.info? ty).map (·.size) = some n) (hs : old.size = n) (hc : cs.size = n) (h1 : cs.all (·.oneCell') = true)
    (h : wpList P ops Q rest (a.put op.dst undef) (w.setRow g cs)) : wpList P ops Q (op :: rest) a w :=
  wpList_plain hgd fun _ hK => wp_store_row ty x y ho g cs hx hy t old hg (by rw [hc]; exact hi) (by omega) h1 (hK _ _ h)

end
theorem add_at (g o j : Nat) : (⟨g, o, none⟩ : Addr).add j = ⟨g, o + j, none⟩ := by
  unfold Addr.add
  split
  · rename_i h; rw [h]; rfl
  · rfl
/-- The cells of bytes. -/
def bl (x : List By) : List Value := x.map fun x => Value.int .u8 (v8 x)
end Go.Proofs.YtehadfidenejdaaGreatDoor

/-! Frames as bytes, on lists: what was put is got; what was got may be put; what is cut off is short. No program in sight. -/
namespace Go.Proofs.YtehadfidenejdaaGreatDoor.Fr
open Go

/-! ### Numbers -/
def szN (n : Nat) : Nat := if n < 64 then 1 else if n < 16384 then 2 else if n < 1073741824 then 4 else 8
def beN (x : Nat) : Nat → List By
  | 0 => []
  | k + 1 => BitVec.ofNat 8 (x / 256 ^ k) :: beN x k
def pfN (n : Nat) : Nat := if n < 64 then 0 else if n < 16384 then 16384 else if n < 1073741824 then 2147483648 else 13835058055282163712
def numL (n : Nat) : List By := beN (n + pfN n) (szN n)
/-! ### Reading -/
def R (α : Type) : Type := List By → Except Nat (α × List By)
/-! ### Frames -/
structure Frame where
  kind : Nat
  stream : Nat
  offset : Nat
  limit : Nat
  code : Nat
  fin : Bool
  data : List By
  ranges : List (Nat × Nat)
def f0 : Frame := ⟨0, 0, 0, 0, 0, false, [], []⟩
/-- Ranges that are a set. -/
def setL : List (Nat × Nat) → Prop
  | [] => True
  | [(a, b)] => a ≤ b ∧ b ≤ 4611686018427387903
  | (a, b) :: (c, d) :: r => a ≤ b ∧ b ≤ 4611686018427387903 ∧ b + 1 < c ∧ setL ((c, d) :: r)
def bareF (f : Frame) (st off lim co fi da ra : Bool) : Prop :=
  (st = true ∨ f.stream = 0) ∧ (off = true ∨ f.offset = 0) ∧ (lim = true ∨ f.limit = 0) ∧ (co = true ∨ f.code = 0) ∧ (fi = true ∨ f.fin = false) ∧ (da = true ∨ f.data = []) ∧ (ra = true ∨ f.ranges = [])
def numsF (f : Frame) : Prop :=
  f.stream ≤ 4611686018427387903 ∧ f.offset ≤ 4611686018427387903 ∧ f.limit ≤ 4611686018427387903 ∧ f.code ≤ 4611686018427387903 ∧ f.offset + f.data.length ≤ 4611686018427387903
def mayF (f : Frame) : Prop := numsF f ∧
  match f.kind with
  | 1 => bareF f false false true false false false false ∧ 1 ≤ f.limit ∧ f.limit ≤ 65536
  | 2 => bareF f false false false false false false false
  | 3 => bareF f false false true false false false true ∧ f.ranges ≠ [] ∧ f.ranges.length ≤ 64 ∧ setL f.ranges
  | 4 => bareF f true false true true false false false
  | 5 => bareF f true false false true false false false
  | 6 => bareF f false true false false false true false
  | 7 => bareF f true true false false true true false
  | 8 => bareF f false false true false false false false
  | 9 => bareF f true false true false false false false
  | 10 => bareF f false false true false true false false ∧ f.limit ≤ 1152921504606846976
  | 11 => bareF f false false true false false false false
  | 12 => bareF f true false true false false false false
  | 13 => bareF f false false false true true true false
  | 14 => bareF f false false false false false false false
  | _ => False

/-- The ranges of an answer, from the last one back. -/
def ackT : Nat → List (Nat × Nat) → List By
  | _, [] => []
  | from_, (a, b) :: r => numL (from_ - b - 2) ++ (numL (b - a) ++ ackT a r)
def ackB (lim : Nat) : List (Nat × Nat) → List By
  | [] => []
  | (a, b) :: r => numL b ++ (numL lim ++ (numL r.length ++ (numL (b - a) ++ ackT a r)))
def sizedL (d : List By) : List By := numL d.length ++ d
def putF (f : Frame) : List By :=
  match f.kind with
  | 1 => List.replicate f.limit 0
  | 2 => numL 1
  | 3 => numL 2 ++ ackB f.limit f.ranges.reverse
  | 4 => numL 4 ++ (numL f.stream ++ (numL f.code ++ numL f.limit))
  | 5 => numL 5 ++ (numL f.stream ++ numL f.code)
  | 6 => numL 6 ++ (numL f.offset ++ sizedL f.data)
  | 7 => numL ((if 0 < f.offset then 14 else 10) + (if f.fin then 1 else 0)) ++ (numL f.stream ++ ((if 0 < f.offset then numL f.offset else []) ++ sizedL f.data))
  | 8 => numL 16 ++ numL f.limit
  | 9 => numL 17 ++ (numL f.stream ++ numL f.limit)
  | 10 => numL (18 + (if f.fin then 1 else 0)) ++ numL f.limit
  | 11 => numL 20 ++ numL f.limit
  | 12 => numL 21 ++ (numL f.stream ++ numL f.limit)
  | 13 => numL (28 + (if f.fin then 1 else 0)) ++ (numL f.code ++ ((if f.fin then [] else numL 0) ++ sizedL f.data))
  | _ => numL 30

/-! ### What was put is got -/
/-! ### All frames -/
def putAll : List Frame → List By
  | [] => []
  | f :: l => putF f ++ putAll l
/-- No padding meets another one. -/
def sepL : Bool → List Frame → Prop
  | _, [] => True
  | p, f :: l => ¬ (p = true ∧ f.kind = 1) ∧ sepL (f.kind == 1) l
def more (f : Frame) : Frame := { f with limit := f.limit + 1 }
/-! What is read gets less. -/
/-! What was put is got. -/
/-! ### What was got may be put -/
/-- What a body tells may be; its bytes are no more than those that were read, but for one without a length. -/
def Told (k : Nat) (b : List By) (f : Frame) (b' : List By) : Prop := mayF f ∧ ((putF f).length + b'.length ≤ szN k + b.length ∨ b' = [] ∧ (putF f).length ≤ szN k + b.length + 8) ∧ (f.kind = 1 → k = 0)
/-! ### The last byte is missing -/
/-! ### An answer -/
end Go.Proofs.YtehadfidenejdaaGreatDoor.Fr

/-! A region that draws its order: whole arrays are loaded first, then what calls, then what stores: laws for a walk by hand. -/
namespace Go.Proofs.YtehadfidenejdaaGreatDoor
open Go Go.RowKit

section
variable {P : Program} {ops : Array Oper} {Q : Exit → Act → World → Prop} {md : Region.Mode} {S : World → Prop} {fuel : Nat} {listed : Array Bool} {a : Act} {w : World}

end
end Go.Proofs.YtehadfidenejdaaGreatDoor

/-! Whole arrays inside a fence: laws of the walk. -/
namespace Go.Proofs.YtehadfidenejdaaGreatDoor
open Go Go.RowKit

section
variable {F : Fence} {n : Nat} {P : Program} {ops : Array Oper} {rest : List Oper} {o : Oper} {a : Act} {w : World} {Q : Exit → Act → World → Prop}

theorem about_none (h : ∀ c, o.op ≠ .call c) : o.about P w a.eval = none := by
  unfold Oper.about
  split
  · rename_i c hc; exact absurd hc (h c)
  · rfl

theorem run_store_row (ty : TypeId) (x y : Operand) (ho : o.op = .store ty x y) (g : Nat) (cs : Array Value) (hx : a.eval x = .pointer (some ⟨g, 0, none⟩)) (hy : a.eval y = .agg cs) (t : TypeId) (old : Array Value) (hg : Row w g t old)
    (m : Nat) (hi : (P.info? ty).map (·.size) = some m) (hs : old.size = m) (hc : cs.size = m) (h1 : cs.all (·.oneCell') = true) : (execOp a.eval o).run P w = .ok .skip (w.setRow g cs) := by
  unfold execOp
  simp only [ho, hx, hy, Instr.storeAt, Instr.sureAddr, Sem.run_bind, Sem.run_pure, Result.andThen_ok, run_storeVar_row w g t ty old cs hg (by rw [hc]; exact hi) (by omega) h1]
/-- A new array, all zero. -/
theorem alloc_rowIn (hgd : o.guard = none) (t : TypeId) (ho : o.op = .alloc t) (cs : Array Value) (hz : (P.info? t).map (·.zero) = some (some (.agg cs))) (h : wpListIn F n P ops Q rest (a.put o.dst (.pointer (some ⟨w.heap.size, 0, none⟩))) (w.alloc (.cells cs t))) : wpListIn F n P ops Q (o :: rest) a w :=
  wpListIn_plain hgd fun _ hK => ⟨(fun f hf => by rw [about_none (by simp [ho])] at hf; cases hf), (by
    rw [Oper.semAt_eq _ _ _ (by simp [ho])]
    have hzv : (zeroValue t).run P w = .ok (.agg cs) w := by
      cases hq : P.info? t with
      | none => simp [hq] at hz
      | some i =>
        have : i.zero = some (.agg cs) := by simpa [hq] using hz
        simp [zeroValue, typeInfo, hq, this]
    have he : (execOp a.eval o).run P w = .ok (.value (.pointer (some ⟨w.heap.size, 0, none⟩))) (w.alloc (.cells cs t)) := by
      unfold execOp
      simp only [ho, Instr.alloc, Sem.run_bind, hzv, Result.andThen_ok, newVar, newRow, Value.cells, run_newObj_alloc, Sem.run_pure]
    rw [he]
    exact hK _ _ h)⟩
end
end Go.Proofs.YtehadfidenejdaaGreatDoor

/-! A range over a function whose iterator writes into memory of its own between two rounds, and whose body writes one block alone and is never left early. -/
namespace Go.Proofs.YtehadfidenejdaaGreatDoor
open Go Go.RowKit Go.Shelf

theorem veil {p : Prop} (h : p) : Hid p := h
/-- All blocks but one lie as they lay. -/
structure Keep1 (st : Nat) (W W' : World) : Prop where
  os : W'.os = W.os
  tape : W'.tape = W.tape
  output : W'.output = W.output
  size : W.heap.size ≤ W'.heap.size
  block : ∀ k, k < W.heap.size → k ≠ st → W'.heap[k]? = W.heap[k]?

theorem Keep1.refl (st : Nat) (W : World) : Keep1 st W W := ⟨rfl, rfl, rfl, Nat.le_refl _, fun _ _ _ => rfl⟩
theorem Keep1.trans {st : Nat} {A B C : World} (h : Keep1 st A B) (k : Keep1 st B C) : Keep1 st A C :=
  ⟨k.os.trans h.os, k.tape.trans h.tape, k.output.trans h.output, Nat.le_trans h.size k.size, fun i hi hs => (k.block i (Nat.lt_of_lt_of_le hi h.size) hs).trans (h.block i hi hs)⟩
theorem Keep1.of_below {st : Nat} {W W' : World} (h : Below W.heap.size W W') : Keep1 st W W' := ⟨h.os, h.tape, h.output, h.size, fun k hk _ => h.block k hk⟩
theorem Keep1.setRow (st : Nat) (W : World) (cs : Array Value) : Keep1 st W (W.setRow st cs) := ⟨rfl, rfl, rfl, by rw [setRow_size]; exact Nat.le_refl _, fun k _ hk => setRow_other W st k cs hk⟩
theorem Keep1.below {st B : Nat} {W W' : World} (h : Keep1 st W W') (hB : B ≤ st) (hs : B ≤ W.heap.size) : Below B W W' := ⟨h.os, h.tape, h.output, h.size, fun k hk => h.block k (by omega) (by omega)⟩
theorem Keep1.row {st g : Nat} {W W' : World} {t : TypeId} {cs : Array Value} (h : Keep1 st W W') (hr : Row W g t cs) (hg : g ≠ st) : Row W' g t cs := (h.block g hr.lt hg).trans hr
section
variable {F : Fence} {n : Nat} {P : Program}

end
theorem Keep1.cell {st g o : Nat} {W W' : World} (h : Keep1 st W W') (hg : g < W.heap.size) (hne : g ≠ st) : W'.cell? ⟨g, o, none⟩ = W.cell? ⟨g, o, none⟩ := World.cell?_of_block (w := W) (h.block g hg hne)
end Go.Proofs.YtehadfidenejdaaGreatDoor

/-! Ranges in memory. -/
namespace Go.Proofs.YtehadfidenejdaaGreatDoor
open Go Go.RowKit

def gr (l : List (Nat × Nat)) (j : Nat) : Nat × Nat := l[j]?.getD (0, 0)
/-- A slice of ranges, and what lies in it. -/
structure RL where
  a : Option Addr
  len : Nat
  cap : Nat
  g : Nat
  off : Nat
  l : List (Nat × Nat)
structure RL.Ok (w : World) (s : RL) : Prop where
  hb : s.l.length = s.len
  hcap : s.len ≤ s.cap
  nil : s.a = none → s.len = 0 ∧ s.cap = 0
  at_ : 0 < s.len → s.a = some ⟨s.g, s.off, none⟩
  lt : 0 < s.len → s.g < w.heap.size
  cell : ∀ j : Nat, j < s.len → w.cell? ⟨s.g, s.off + j * 2, none⟩ = some (.int .u64 ((gr s.l j).1 : Int)) ∧ w.cell? ⟨s.g, s.off + j * 2 + 1, none⟩ = some (.int .u64 ((gr s.l j).2 : Int))
  small : ∀ j, (gr s.l j).1 < 18446744073709551616 ∧ (gr s.l j).2 < 18446744073709551616
theorem RL.Ok.same {w w' : World} {s : RL} (h : s.Ok w) (hs : 0 < s.len → w'.heap[s.g]? = w.heap[s.g]?) (hz : w.heap.size ≤ w'.heap.size) : s.Ok w' :=
  ⟨h.hb, h.hcap, h.nil, h.at_, fun p => Nat.lt_of_lt_of_le (h.lt p) hz, fun j hj => ⟨(World.cell?_of_block (a := ⟨s.g, s.off + j * 2, none⟩) (hs (by omega))).trans (h.cell j hj).1, (World.cell?_of_block (a := ⟨s.g, s.off + j * 2 + 1, none⟩) (hs (by omega))).trans (h.cell j hj).2⟩, h.small⟩
theorem RL.Ok.below {w w' : World} {s : RL} (h : s.Ok w) (hb : Below w.heap.size w w') : s.Ok w' := h.same (fun p => hb.block _ (h.lt p)) hb.size


end Go.Proofs.YtehadfidenejdaaGreatDoor

/-! Ranges in a row of the call's own. -/
namespace Go.Proofs.YtehadfidenejdaaGreatDoor
open Go Go.RowKit

def vr (l : List (Nat × Nat)) : List Value := l.flatMap fun r => [Value.int .u64 (r.1 : Int), .int .u64 (r.2 : Int)]
def rC2 (r : Nat × Nat) : Array Value := #[.int .u64 (r.1 : Int), .int .u64 (r.2 : Int)]
theorem vr_length (l : List (Nat × Nat)) : (vr l).length = 2 * l.length := by
  induction l with
  | nil => rfl
  | cons r l ih =>
    rw [vr, List.flatMap_cons, List.length_append, List.length_cons]
    have : (l.flatMap fun r => [Value.int .u64 (r.1 : Int), .int .u64 (r.2 : Int)]).length = 2 * l.length := ih
    rw [this]
    simp only [List.length_cons, List.length_nil]
    omega
theorem vr_cons (r : Nat × Nat) (l : List (Nat × Nat)) : vr (r :: l) = .int .u64 (r.1 : Int) :: .int .u64 (r.2 : Int) :: vr l := rfl
theorem vr_append (a b : List (Nat × Nat)) : vr (a ++ b) = vr a ++ vr b := by unfold vr; rw [List.flatMap_append]
theorem vr_at : ∀ (l : List (Nat × Nat)) (j : Nat), j < l.length → (vr l)[j * 2]? = some (.int .u64 ((gr l j).1 : Int)) ∧ (vr l)[j * 2 + 1]? = some (.int .u64 ((gr l j).2 : Int))
  | [], _, h => absurd h (Nat.not_lt_zero _)
  | r :: l, 0, _ => ⟨rfl, rfl⟩
  | r :: l, j + 1, h => by
    have h2 := vr_at l j (by simpa using h)
    have e : gr (r :: l) (j + 1) = gr l j := by simp [gr]
    rw [e, vr_cons, show (j + 1) * 2 = j * 2 + 1 + 1 by omega, show j * 2 + 1 + 1 + 1 = (j * 2 + 1) + 1 + 1 by omega, List.getElem?_cons_succ, List.getElem?_cons_succ, List.getElem?_cons_succ, List.getElem?_cons_succ]
    exact h2
theorem vr_set : ∀ (l : List (Nat × Nat)) (j : Nat) (r : Nat × Nat), j < l.length → vr (l.set j r) = ((vr l).set (j * 2) (.int .u64 (r.1 : Int))).set (j * 2 + 1) (.int .u64 (r.2 : Int))
  | [], _, _, h => absurd h (Nat.not_lt_zero _)
  | q :: l, 0, r, _ => rfl
  | q :: l, j + 1, r, h => by
    rw [List.set_cons_succ, vr_cons, vr_set l j r (by simpa using h), vr_cons, show (j + 1) * 2 = j * 2 + 1 + 1 by omega, show j * 2 + 1 + 1 + 1 = (j * 2 + 1) + 1 + 1 by omega, List.set_cons_succ, List.set_cons_succ, List.set_cons_succ, List.set_cons_succ]
/-- One cell of a row of the call's own is written. -/
theorem own_cellS {w : World} {base n g cap k z : Nat} {e : TypeId} {xs : List Value} (h : w.ownsRow base e z (.slice (some ⟨g, 0, none⟩) n cap) n xs) (u : Value) : (w.setCell ⟨g, k, none⟩ u).ownsRow base e z (.slice (some ⟨g, 0, none⟩) n cap) n (xs.set k u) := by
  obtain ⟨h1, h2⟩ := h
  refine ⟨by rw [List.length_set]; exact h1, ?_⟩
  rcases h2 with ⟨h3, _⟩ | ⟨g', c', cur, h3, h4, h5, h6, h7, h8, h9⟩
  · cases h3
  · injection h3 with e1 e2 e3
    injection e1 with e1
    injection e1 with e1
    subst e1 e3
    refine .inr ⟨g, cap, cur.setIfInBounds k u, rfl, h4, (show Row w g e cur from h5).set k u, h6, h7, by rw [Array.size_setIfInBounds]; exact h8, ?_⟩
    rw [Array.toList_setIfInBounds, List.take_set, h9]
theorem own_pair {w : World} {base n g cap j : Nat} {l : List (Nat × Nat)} (h : w.ownsRow base 93 2 (.slice (some ⟨g, 0, none⟩) n cap) n (vr l)) (r : Nat × Nat) (hj : j < n) (hl : l.length = n) : (w.setCells g (j * 2) (rC2 r).toList).ownsRow base 93 2 (.slice (some ⟨g, 0, none⟩) n cap) n (vr (l.set j r)) := by
  rw [vr_set l j r (by omega)]
  exact own_cellS (own_cellS h _) _
theorem own_range {w : World} {base n g cap : Nat} {l : List (Nat × Nat)} (h : w.ownsRow base 93 2 (.slice (some ⟨g, 0, none⟩) n cap) n (vr l)) (hl : l.length = n) (j : Nat) (hj : j < n) : w.rangeAt g (0 + j * 2) (rC2 (gr l j)).toList := by
  have hc := h.cells (g := g) rfl
  obtain ⟨a1, a2⟩ := vr_at l j (by omega)
  intro q v hv
  match q, hv with
  | 0, hv =>
    rw [← Option.some.inj hv]
    have := hc _ _ a1
    rw [add_at, Nat.zero_add] at this
    rw [Nat.zero_add, Nat.add_zero]
    exact this
  | 1, hv =>
    rw [← Option.some.inj hv]
    have := hc _ _ a2
    rw [add_at, Nat.zero_add] at this
    rw [Nat.zero_add]
    exact this
  | _ + 2, hv => simp [rC2] at hv
theorem own_there {w : World} {base n g cap : Nat} {l : List (Nat × Nat)} (h : w.ownsRow base 93 2 (.slice (some ⟨g, 0, none⟩) n cap) n (vr l)) (hl : l.length = n) (j : Nat) (hj : j < n) : w.there g (0 + j * 2) 2 := by
  have hr := own_range h hl j hj
  rcases h.2 with ⟨h3, _⟩ | ⟨g', c', cur, h3, h4, h5, h6, h7, h8, h9⟩
  · cases h3
  · injection h3 with e1 e2 e3
    injection e1 with e1
    injection e1 with e1
    subst e1 e3
    intro q hq
    refine ⟨?_, (show Row w g 93 cur from h5).frozen _⟩
    match q, hq with
    | 0, _ => rw [hr 0 _ rfl]; rfl
    | 1, _ => rw [hr 1 _ rfl]; rfl
    | _ + 2, hq => omega
theorem vr_one (l : List (Nat × Nat)) : ∀ u ∈ vr l, u.oneCell' = true := by
  intro u hu
  obtain ⟨r, _, h⟩ := List.mem_flatMap.1 hu
  simp only [List.mem_cons, List.not_mem_nil, or_false] at h
  rcases h with rfl | rfl <;> rfl
theorem Tryz.infoRangeV : (Tryz.prog.info? 93).map (fun i => (i.zero, i.size, i.bytes)) = some (some (.agg (rC2 (0, 0))), 2, 16) := by kernel_rfl
theorem range_info : ∃ i0, Tryz.prog.info? 93 = some i0 ∧ i0.zero = some (.agg (rC2 (0, 0))) ∧ i0.size = 2 ∧ i0.bytes = 16 := by
  have h := Tryz.infoRangeV
  cases hq : Tryz.prog.info? 93 with
  | none => rw [hq] at h; cases h
  | some i =>
    rw [hq] at h
    simp only [Option.map_some, Option.some.injEq, Prod.mk.injEq] at h
    exact ⟨i, rfl, h.1, h.2.1, h.2.2⟩
end Go.Proofs.YtehadfidenejdaaGreatDoor

/-! A region inside a fence that draws its order: operations that come up alone, and many that only read. Written by mkquiet.py. -/
namespace Go.Proofs.YtehadfidenejdaaGreatDoor
open Go Go.RowKit

section
variable {F : Fence} {n : Nat} {P : Program} {ops : Array Oper} {Q : Exit → Act → World → Prop} {md : Region.Mode} {fuel : Nat} {listed : Array Bool} {a : Act} {w : World}
theorem about_builtin {o : Oper} (b : Builtin) (args : Array Operand) (tys : Array TypeId) (ho : o.op = .call { callee := .builtin b, args := args, argTypes := tys }) : o.about P w a.eval = none := by
  unfold Oper.about
  simp only [ho, resolve, Sem.run_pure]
  rfl
theorem OI_value {o : Oper} {i : Nat} {K : Act → World → Prop} (hi : ops[i]? = some o) (hw : Region.wanted o (yielded ops a.tmps) = true) (hab : o.about P w a.eval = none) (hd : ∀ c, o.op ≠ .defer c) (v : Value) (w' : World)
    (he : (execOp a.eval o).run P w = .ok (.value v) w') (h : K (a.put o.dst v) w') : wpOpIn F n P ops Q i K a w := by
  unfold wpOpIn
  simp only [hi, hw, if_true]
  unfold Oper.wpIn
  refine ⟨fun f hf => (by rw [hab] at hf; cases hf), ?_⟩
  rw [Oper.semAt_eq _ _ _ hd, he]
  exact h
theorem OI_skip {o : Oper} {i : Nat} {K : Act → World → Prop} (hi : ops[i]? = some o) (hw : Region.wanted o (yielded ops a.tmps) = true) (hab : o.about P w a.eval = none) (hd : ∀ c, o.op ≠ .defer c) (w' : World)
    (he : (execOp a.eval o).run P w = .ok .skip w') (h : K (a.put o.dst undef) w') : wpOpIn F n P ops Q i K a w := by
  unfold wpOpIn
  simp only [hi, hw, if_true]
  unfold Oper.wpIn
  refine ⟨fun f hf => (by rw [hab] at hf; cases hf), ?_⟩
  rw [Oper.semAt_eq _ _ _ hd, he]
  exact h
theorem OI_call {o : Oper} {i : Nat} {K : Act → World → Prop} (hi : ops[i]? = some o) (hw : Region.wanted o (yielded ops a.tmps) = true) (hd : ∀ c, o.op ≠ .defer c) (f : Nat) (args : Array Value) (hab : ∀ g, o.about P w a.eval = some g → F.fn g)
    (he : (execOp a.eval o).run P w = .ok (.enter f args) w) (hn : 1 ≤ n) (hc : CallsIn F (n - 1) P f args w fun e w' => ∃ v, e = .returned v ∧ K (a.put o.dst v) w') : wpOpIn F n P ops Q i K a w := by
  unfold wpOpIn
  simp only [hi, hw, if_true]
  unfold Oper.wpIn
  refine ⟨hab, ?_⟩
  rw [Oper.semAt_eq _ _ _ hd, he]
  exact ⟨fun _ => hn, hc.mono (by rintro e w' ⟨v, rfl, h⟩; exact h)⟩
end

end Go.Proofs.YtehadfidenejdaaGreatDoor

/-! A region that draws its order, by what holds at every state on the way: no program in sight. -/
namespace Go.Proofs.YtehadfidenejdaaGreatDoor
open Go Go.RowKit

/-- The i-th is done. -/
def On (l : Array Bool) (i : Nat) : Prop := l.getD i false = true
theorem On.of_set {l : Array Bool} {i j : Nat} (h : On (l.setIfInBounds i true) j) (hij : i ≠ j) : On l j := by
  unfold On at *
  rw [Array.getD_eq_getD_getElem?] at *
  rwa [Array.getElem?_setIfInBounds_ne hij] at h
theorem On.set {l : Array Bool} {i j : Nat} (h : On l j) : On (l.setIfInBounds i true) j := by
  unfold On at *
  rw [Array.getD_eq_getD_getElem?] at *
  rw [Array.getElem?_setIfInBounds]
  split
  · split
    · rfl
    · rename_i h1 h2
      rw [Array.getElem?_eq_none (by omega)] at h
      cases h
  · exact h

theorem On.self {l : Array Bool} {i : Nat} (h : i < l.size) : On (l.setIfInBounds i true) i := by
  unfold On
  rw [Array.getD_eq_getD_getElem?, Array.getElem?_setIfInBounds_self_of_lt h]
  rfl
theorem On.none (N i : Nat) : ¬ On (Array.replicate N false) i := by
  unfold On
  rw [Array.getD_eq_getD_getElem?, Array.getElem?_replicate]
  split <;> simp

section
variable {F : Fence} {n : Nat} {P : Program} {ops : Array Oper} {Q : Exit → Act → World → Prop} {md : Region.Mode}
theorem count_set (l : Array Bool) (i : Nat) (hi : i < l.size) (h : l.getD i false = false) : (l.setIfInBounds i true).toList.count false + 1 = l.toList.count false := by
  obtain ⟨l⟩ := l
  simp only [List.size_toArray] at hi
  rw [Array.getD_eq_getD_getElem?] at h
  simp only [List.getElem?_toArray, List.getElem?_eq_getElem hi, Option.getD_some] at h
  simp only [List.setIfInBounds_toArray]
  induction l generalizing i with
  | nil => simp at hi
  | cons b l ih =>
    cases i with
    | zero =>
      simp at h
      subst h
      simp
    | succ i =>
      simp at h hi
      have := ih i hi h
      simp only [List.set_cons_succ, List.count_cons]
      omega

end
end Go.Proofs.YtehadfidenejdaaGreatDoor

/-! A region that draws its order, by what holds at every state on the way, of any number of operations: what is asked of its order is read off its edges. No program in sight. -/
namespace Go.Proofs.YtehadfidenejdaaGreatDoor
open Go Go.RowKit

/-- Values by their numbers, one of them another. -/
def updV (x : Nat → Value) (i : Nat) (v : Value) : Nat → Value := fun j => if j = i then v else x j
theorem updV_self {x : Nat → Value} {i : Nat} {v : Value} (h : x i = v) : x = updV x i v := by
  funext j
  unfold updV
  split
  · rename_i e; rw [e, h]
  · rfl

section
variable {F : Fence} {n : Nat} {P : Program} {ops : Array Oper} {Q : Exit → Act → World → Prop} {md : Region.Mode}
/-- What an operation is said to wait for is an edge that binds; and each edge that binds goes back. -/
def edgesB (md : Region.Mode) (ops : Array Oper) (dep : Nat → List Nat) : Bool :=
  (List.range ops.size).all fun i => match ops[i]? with
    | none => false
    | some o => ((dep i).all fun j => o.after.toList.any fun e => decide (e.on = j) && Region.binds md e) && o.after.toList.all fun e => !Region.binds md e || decide (e.on < i)

theorem anyIn_inv2 {Inv : Array Bool → Act → World → Prop} (dep : Nat → List Nat) (N : Nat) (hN : ops.size = N) (hd : edgesB md ops dep = true)
    (hstep : ∀ l a w i, l.size = N → Inv l a w → i < N → ¬ On l i → (∀ j ∈ dep i, On l j) → wpOpIn F n P ops Q i (Inv (l.setIfInBounds i true)) a w)
    (hdone : ∀ l a w, Inv l a w → (∀ i, i < N → On l i) → Q .normal a w) :
    ∀ (fuel : Nat) (l : Array Bool) (a : Act) (w : World), l.size = N → l.toList.count false ≤ fuel → Inv l a w → wpAnyIn F n P md ops Q fuel l a w := by
  have hall : ∀ i, i < N → ∃ o, ops[i]? = some o ∧ (∀ j ∈ dep i, ∃ e ∈ o.after.toList, e.on = j ∧ Region.binds md e = true) ∧ ∀ e ∈ o.after.toList, Region.binds md e = true → e.on < i := by
    intro i hi
    have h := List.all_eq_true.1 hd i (by rw [List.mem_range, hN]; exact hi)
    cases ho : ops[i]? with
    | none => simp [ho] at h
    | some o =>
      simp only [ho, Bool.and_eq_true] at h
      refine ⟨o, rfl, fun j hj => ?_, fun e he hb => ?_⟩
      · obtain ⟨e, he, h1⟩ := List.any_eq_true.1 (List.all_eq_true.1 h.1 j hj)
        simp only [Bool.and_eq_true, decide_eq_true_eq] at h1
        exact ⟨e, he, h1.1, h1.2⟩
      · have h1 := List.all_eq_true.1 h.2 e he
        rw [hb] at h1
        simpa using h1
  have key : ∀ l : Array Bool, l.size = N → (∀ i ∈ Region.ready md ops l, i < N ∧ l.getD i false = false ∧ ∀ j ∈ dep i, On l j) ∧ (Region.ready md ops l = [] → ∀ i, i < N → On l i) := by
    intro l hl
    refine ⟨fun i hi => ?_, fun h0 => ?_⟩
    · unfold Region.ready at hi
      rw [List.mem_filter, List.mem_range, hN] at hi
      obtain ⟨h1, h2⟩ := hi
      obtain ⟨o, ho, hdep, _⟩ := hall i h1
      simp only [ho, Option.map_some, Option.getD_some, Bool.and_eq_true, Bool.not_eq_true'] at h2
      have h3 : l.getD i false = false := by
        have := h2.1
        rw [Array.getD_eq_getD_getElem?, Array.getElem?_eq_getElem (by omega)] at this ⊢
        simpa using this
      refine ⟨h1, h3, fun j hj => ?_⟩
      obtain ⟨e, he, rfl, hb⟩ := hdep j hj
      have h4 := Array.all_eq_true'.1 h2.2 e (by simpa using he)
      rw [hb] at h4
      unfold On
      simpa using h4
    · intro i
      induction i using Nat.strongRecOn with
      | _ i ih =>
        intro hi
        obtain ⟨o, ho, _, hback⟩ := hall i hi
        cases hc : l.getD i false with
        | true => exact hc
        | false =>
          exfalso
          have hm : i ∈ Region.ready md ops l := by
            unfold Region.ready
            rw [List.mem_filter, List.mem_range, hN]
            refine ⟨hi, ?_⟩
            simp only [ho, Option.map_some, Option.getD_some, Bool.and_eq_true, Bool.not_eq_true']
            refine ⟨?_, Array.all_eq_true'.2 fun e he => ?_⟩
            · rw [Array.getD_eq_getD_getElem?, Array.getElem?_eq_getElem (by omega)] at hc ⊢
              simpa using hc
            · cases hb : Region.binds md e with
              | false => rfl
              | true =>
                have h1 := hback e (by simpa using he) hb
                have h2 := ih e.on h1 (by omega)
                unfold On at h2
                simpa using h2
          rw [h0] at hm
          cases hm
  intro fuel
  induction fuel with
  | zero =>
    intro l a w hl hc hI
    have h0 : Region.ready md ops l = [] := by
      cases hr : Region.ready md ops l with
      | nil => rfl
      | cons i r =>
        exfalso
        have h1 := (key l hl).1 i (by rw [hr]; simp)
        have h2 := count_set l i (by omega) h1.2.1
        omega
    exact ⟨h0, hdone l a w hI ((key l hl).2 h0)⟩
  | succ fuel ih =>
    intro l a w hl hc hI
    refine ⟨fun h0 => hdone l a w hI ((key l hl).2 h0), fun i hi => ?_⟩
    have h1 := (key l hl).1 i hi
    have h2 := count_set l i (by omega) h1.2.1
    exact wpOpIn_mono (fun a' w' hI' => ih _ a' w' (by rw [Array.size_setIfInBounds]; exact hl) (by omega) hI') (hstep l a w i hl hI h1.1 (by unfold On; rw [h1.2.1]; simp) h1.2.2)
end
/-- A region that reads and calls: each operation that is done has brought its value about. -/
structure JV (V : Nat → Value) (w0 : World) (l : Array Bool) (W : World) (x : Nat → Value) : Prop where
  bel : Below w0.heap.size w0 W
  g : ∀ j, On l j → x j = V j
theorem JV.next {V : Nat → Value} {w0 : World} {l : Array Bool} {W : World} {x : Nat → Value} (q : JV V w0 l W x) (i : Nat) (W' : World) (hb : Below W.heap.size W W') (v : Value) (hv : v = V i) : JV V w0 (l.setIfInBounds i true) W' (updV x i v) := by
  refine ⟨q.bel.trans (hb.mono q.bel.size), fun j hj => ?_⟩
  unfold updV
  split
  · rename_i e; rw [e]; exact hv
  · rename_i e; exact q.g j (hj.of_set (Ne.symm e))
theorem JV.start (V : Nat → Value) (w0 : World) (N : Nat) (W : World) (h : Below w0.heap.size w0 W) (x : Nat → Value) : JV V w0 (Array.replicate N false) W x := ⟨h, fun _ hj => absurd hj (On.none _ _)⟩
end Go.Proofs.YtehadfidenejdaaGreatDoor

/-! A region that draws its order, reads and calls: each operation has one value, whatever the order. No program in sight. -/
namespace Go.Proofs.YtehadfidenejdaaGreatDoor
open Go Go.RowKit

/-- The slots of a list, from a number on, filled. -/
def putsV (a : Act) : List Nat → Nat → (Nat → Value) → Act
  | [], _, _ => a
  | d :: ds, k, x => putsV (a.put (some d) (x k)) ds (k + 1) x
theorem put_comm (a : Act) (d e : Nat) (u v : Value) (h : d ≠ e) : (a.put (some d) u).put (some e) v = (a.put (some e) v).put (some d) u := by
  simp only [Act.put]
  rw [Array.setIfInBounds_comm _ _ h]
theorem put_again (a : Act) (d : Nat) (u v : Value) : (a.put (some d) u).put (some d) v = a.put (some d) v := by
  simp only [Act.put]
  rw [Array.setIfInBounds_setIfInBounds]
theorem puts_comm (d : Nat) (v : Value) : ∀ (ds : List Nat) (a : Act) (k : Nat) (x : Nat → Value), d ∉ ds → (putsV a ds k x).put (some d) v = putsV (a.put (some d) v) ds k x
  | [], _, _, _, _ => rfl
  | e :: ds, a, k, x, h => by
    simp only [List.mem_cons, not_or] at h
    rw [putsV, puts_comm d v ds _ _ _ h.2, putsV, put_comm _ _ _ _ _ (Ne.symm h.1)]
theorem puts_congr : ∀ (ds : List Nat) (a : Act) (k : Nat) (x y : Nat → Value), (∀ j, k ≤ j → x j = y j) → putsV a ds k x = putsV a ds k y
  | [], _, _, _, _, _ => rfl
  | e :: ds, a, k, x, y, h => by
    rw [putsV, putsV, h k (Nat.le_refl _), puts_congr ds _ _ x y (fun j hj => h j (by omega))]
theorem puts_put : ∀ (ds : List Nat) (a : Act) (k i d : Nat) (x : Nat → Value) (v : Value), ds.Nodup → ds[i]? = some d → (putsV a ds k x).put (some d) v = putsV a ds k (updV x (k + i) v)
  | [], _, _, _, _, _, _, _, h => by simp at h
  | e :: ds, a, k, 0, d, x, v, hn, h => by
    simp only [List.getElem?_cons_zero, Option.some.injEq] at h
    subst h
    rw [List.nodup_cons] at hn
    rw [putsV, puts_comm _ _ _ _ _ _ hn.1, put_again, putsV]
    have e1 : updV x (k + 0) v k = v := by unfold updV; rw [if_pos (Nat.add_zero k).symm]
    rw [e1]
    exact puts_congr _ _ _ _ _ fun j hj => by unfold updV; rw [if_neg (by omega)]
  | e :: ds, a, k, i + 1, d, x, v, hn, h => by
    rw [List.nodup_cons] at hn
    rw [List.getElem?_cons_succ] at h
    rw [putsV, puts_put ds _ _ i d x v hn.2 h, putsV]
    have e1 : updV x (k + (i + 1)) v k = x k := by unfold updV; rw [if_neg (by omega)]
    rw [e1, show k + 1 + i = k + (i + 1) by omega]

section
variable {F : Fence} {n : Nat} {P : Program} {ops : Array Oper} {Q : Exit → Act → World → Prop} {md : Region.Mode}
/-- The same, with what each operation brings about told of its value and the world; the last operation, which waits for all others, stores. -/
theorem anyIn_store {a0 : Act} {w0 W0 : World} (G : Nat → World → Value → Prop) (hmono : ∀ j W W' v, Below W.heap.size W W' → G j W v → G j W' v) (ds : List Nat) (dep : Nat → List Nat) (hd : edgesB md ops dep = true) (hlen : ds.length + 1 = ops.size) (hnd : ds.Nodup)
    (hall : ∀ j, j < ds.length → j ∈ dep ds.length)
    (h0 : putsV a0 ds 0 (fun _ => undef) = a0) (hW : Below w0.heap.size w0 W0) (R : (Nat → Value) → World → Prop)
    (hstep : ∀ (x : Nat → Value) (W : World) (i d : Nat), Below w0.heap.size w0 W → ds[i]? = some d → (∀ j ∈ dep i, G j W (x j)) → wpOpIn F n P ops Q i (fun a' W' => ∃ v, a' = (putsV a0 ds 0 x).put (some d) v ∧ Below W.heap.size W W' ∧ G i W' v) (putsV a0 ds 0 x) W)
    (hlast : ∀ (x : Nat → Value) (W : World), Below w0.heap.size w0 W → (∀ j, j < ds.length → G j W (x j)) → wpOpIn F n P ops Q ds.length (fun a' W' => a' = putsV a0 ds 0 x ∧ R x W') (putsV a0 ds 0 x) W)
    (hdone : ∀ x W, R x W → Q .normal (putsV a0 ds 0 x) W) : wpAnyIn F n P md ops Q ops.size (Array.replicate ops.size false) a0 W0 := by
  refine anyIn_inv2 (Inv := fun l a W => ∃ x : Nat → Value, a = putsV a0 ds 0 x ∧ ((¬ On l ds.length ∧ Below w0.heap.size w0 W ∧ ∀ j, On l j → G j W (x j)) ∨ ((∀ j, j < ds.length → On l j) ∧ On l ds.length ∧ R x W))) dep ops.size rfl hd ?_ ?_ _ _ _ _ (by simp) (by simp) ⟨fun _ => undef, h0.symm, .inl ⟨On.none _ _, hW, fun _ hj => absurd hj (On.none _ _)⟩⟩
  · rintro l a W i hl ⟨x, rfl, hJ⟩ hi hno hdep
    rcases hJ with ⟨h1, h2, h3⟩ | ⟨h1, h2, _⟩
    · by_cases hlt : i < ds.length
      · have hdi : ds[i]? = some ds[i] := List.getElem?_eq_getElem hlt
        refine wpOpIn_mono ?_ (hstep x W i ds[i] h2 hdi (fun j hj => h3 j (hdep j hj)))
        rintro a' W' ⟨v, rfl, hb, hv⟩
        refine ⟨updV x i v, ?_, .inl ⟨fun e => h1 (e.of_set (by omega)), h2.trans (hb.mono h2.size), fun j hj => ?_⟩⟩
        · rw [puts_put ds a0 0 i _ x _ hnd hdi, Nat.zero_add]
        · unfold updV
          split
          · rename_i e; rw [e]; exact hv
          · rename_i e; exact hmono _ _ _ _ hb (h3 j (hj.of_set (Ne.symm e)))
      · obtain rfl : i = ds.length := by omega
        have hon : ∀ j, j < ds.length → On l j := fun j hj => hdep j (hall j hj)
        refine wpOpIn_mono ?_ (hlast x W h2 (fun j hj => h3 j (hon j hj)))
        rintro a' W' ⟨rfl, hR⟩
        exact ⟨x, rfl, .inr ⟨fun j hj => (hon j hj).set, On.self (by omega), hR⟩⟩
    · exfalso
      by_cases hlt : i < ds.length
      · exact hno (h1 i hlt)
      · obtain rfl : i = ds.length := by omega
        exact hno h2
  · rintro l a W ⟨x, rfl, hJ⟩ hon
    rcases hJ with ⟨h1, _⟩ | ⟨_, _, hR⟩
    · exact absurd (hon ds.length (by omega)) h1
    · exact hdone x W hR
end
end Go.Proofs.YtehadfidenejdaaGreatDoor

/-! A region that draws its order, reads and calls, inside a round: its slots may hold anything. No program in sight. -/
namespace Go.Proofs.YtehadfidenejdaaGreatDoor
open Go Go.RowKit

theorem put_self (a : Act) (d : Nat) : a.put (some d) (a.tmps.getD d undef) = a := by
  simp only [Act.put]
  congr 1
  apply Array.ext_getElem?
  intro i
  rw [Array.getElem?_setIfInBounds, Array.getD_eq_getD_getElem?]
  by_cases h : d = i
  · subst h
    rw [if_pos rfl]
    by_cases h2 : d < a.tmps.size
    · rw [if_pos h2, Array.getElem?_eq_getElem h2]
      rfl
    · rw [if_neg h2, Array.getElem?_eq_none (by omega)]
  · rw [if_neg h]
theorem puts_start (a : Act) : ∀ (ds : List Nat) (k : Nat), putsV a ds k (fun j => a.tmps.getD (ds.getD (j - k) 0) undef) = a
  | [], _ => rfl
  | d :: ds, k => by
    rw [putsV]
    simp only [Nat.sub_self, List.getD_cons_zero]
    rw [put_self]
    refine (puts_congr ds a (k + 1) _ _ fun j hj => ?_).trans (puts_start a ds (k + 1))
    rw [show j - k = (j - (k + 1)) + 1 by omega, List.getD_cons_succ]

section
variable {F : Fence} {n : Nat} {P : Program} {ops : Array Oper} {Q : Exit → Act → World → Prop} {md : Region.Mode}
theorem anyIn_vals2 {a0 : Act} {w0 W0 : World} (V : Nat → Value) (ds : List Nat) (dep : Nat → List Nat) (hd : edgesB md ops dep = true) (hlen : ds.length = ops.size) (hnd : ds.Nodup)
    (hW : Below w0.heap.size w0 W0)
    (hstep : ∀ (x : Nat → Value) (W : World) (i d : Nat), Below w0.heap.size w0 W → ds[i]? = some d → (∀ j ∈ dep i, x j = V j) → wpOpIn F n P ops Q i (fun a' W' => a' = (putsV a0 ds 0 x).put (some d) (V i) ∧ Below W.heap.size W W') (putsV a0 ds 0 x) W)
    (hdone : ∀ W, Below w0.heap.size w0 W → Q .normal (putsV a0 ds 0 V) W) : wpAnyIn F n P md ops Q ops.size (Array.replicate ops.size false) a0 W0 := by
  refine anyIn_inv2 (Inv := fun l a W => ∃ x : Nat → Value, a = putsV a0 ds 0 x ∧ JV V w0 l W x) dep ops.size rfl hd ?_ ?_ _ _ _ _ (by simp) (by simp) ⟨_, (puts_start a0 ds 0).symm, JV.start _ _ _ _ hW _⟩
  · rintro l a W i _ ⟨x, rfl, hJ⟩ hi _ hdep
    have hi' : i < ds.length := by omega
    have hdi : ds[i]? = some ds[i] := List.getElem?_eq_getElem hi'
    refine wpOpIn_mono ?_ (hstep x W i ds[i] hJ.bel hdi (fun j hj => hJ.g j (hdep j hj)))
    rintro a' W' ⟨rfl, hb⟩
    refine ⟨updV x i (V i), ?_, hJ.next i W' hb _ rfl⟩
    rw [puts_put ds a0 0 i _ x _ hnd hdi, Nat.zero_add]
  · rintro l a W ⟨x, rfl, hJ⟩ hon
    have e : putsV a0 ds 0 x = putsV a0 ds 0 V := by
      have key : ∀ (ds' : List Nat) (b : Act) (k : Nat), k + ds'.length = ops.size → putsV b ds' k x = putsV b ds' k V := by
        intro ds'
        induction ds' with
        | nil => intro _ _ _; rfl
        | cons d ds' ih =>
          intro b k hk
          simp only [List.length_cons] at hk
          rw [putsV, putsV, hJ.g k (hon k (by omega)), ih _ _ (by omega)]
      exact key ds a0 0 (by omega)
    rw [e]
    exact hdone W hJ.bel
end
end Go.Proofs.YtehadfidenejdaaGreatDoor

/-! Single operations, guarded ones among them. No program in sight. -/
namespace Go.Proofs.YtehadfidenejdaaGreatDoor
open Go Go.RowKit

section
variable {F : Fence} {n : Nat} {P : Program} {ops : Array Oper} {Q : Exit → Act → World → Prop} {a : Act} {w : World}
theorem OI_off2 {i : Nat} {K : Act → World → Prop} (h1 : i < ops.size) (hw : Region.wanted ops[i] (yielded ops a.tmps) = false) (hab : ∀ f, ops[i].about P w a.eval = some f → F.fn f) (h : K (a.put ops[i].dst undef) w) : wpOpIn F n P ops Q i K a w := by
  unfold wpOpIn
  simp only [Array.getElem?_eq_getElem h1, hw]
  exact ⟨hab, h⟩
theorem OI_value2 {i : Nat} {K : Act → World → Prop} (h1 : i < ops.size) (hw : Region.wanted ops[i] (yielded ops a.tmps) = true) (hab : ops[i].about P w a.eval = none) (hd : ∀ c, ops[i].op ≠ .defer c) (v : Value) (w' : World)
    (he : (execOp a.eval ops[i]).run P w = .ok (.value v) w') (h : K (a.put ops[i].dst v) w') : wpOpIn F n P ops Q i K a w :=
  OI_value (Array.getElem?_eq_getElem h1) hw hab hd v w' he h
theorem OI_call2 {i : Nat} {K : Act → World → Prop} (h1 : i < ops.size) (hw : Region.wanted ops[i] (yielded ops a.tmps) = true) (hd : ∀ c, ops[i].op ≠ .defer c) (f : Nat) (args : Array Value) (hab : ∀ g, ops[i].about P w a.eval = some g → F.fn g)
    (he : (execOp a.eval ops[i]).run P w = .ok (.enter f args) w) (hn : 1 ≤ n) (hc : CallsIn F (n - 1) P f args w fun e w' => ∃ v, e = .returned v ∧ K (a.put ops[i].dst v) w') : wpOpIn F n P ops Q i K a w :=
  OI_call (Array.getElem?_eq_getElem h1) hw hd f args hab he hn hc
end
section
variable {P : Program} {a : Act} {o : Oper}
theorem run_midR (ty : TypeId) (x : Operand) (g off : Nat) (cs : Array Value) (d : TypeDesc) (ho : o.op = .load ty x) (hx : a.eval x = .pointer (some ⟨g, off, none⟩)) (hu : P.underlying ty = some d) (hd : d.isRow = true) (hi : (P.info? ty).map (·.size) = some cs.size) (W : World) (hc : W.rangeAt g off cs.toList) :
    (execOp a.eval o).run P W = .ok (.value (.agg cs)) W := by
  have h := run_loadAt_mid (P := P) W g off ty cs.toList d hc hu hd (by simpa using hi)
  unfold execOp
  simp only [ho, hx, Sem.run_bind, h, Result.andThen_ok, Sem.run_pure]
theorem run_atR (t e : TypeId) (m : Nat) (x ix : Operand) (g off len cap j : Nat) (ho : o.op = .indexAddr t x ix) (hx : a.eval x = .slice (some ⟨g, off, none⟩) len cap) (hix : a.eval ix = .int .i64 (j : Int))
    (hu : P.underlying t = some (.slice e)) (hi : (P.info? e).map (·.size) = some m) (hj : j < len) (W : World) : (execOp a.eval o).run P W = .ok (.value (.pointer (some ⟨g, off + j * m, none⟩))) W := by
  have hsz : (sizeOf e).run P W = .ok m W := by
    cases hq : P.info? e with
    | none => simp [hq] at hi
    | some i =>
      have : i.size = m := by simpa [hq] using hi
      simp [sizeOf, typeInfo, hq, this]
  unfold execOp
  simp [ho, hx, hix, Instr.indexAt, asIntOf, run_underlying hu, hj, hsz, Addr.add_mid]
end
end Go.Proofs.YtehadfidenejdaaGreatDoor
