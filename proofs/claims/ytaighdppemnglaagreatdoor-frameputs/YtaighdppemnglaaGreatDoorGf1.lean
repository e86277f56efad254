/-
  Out of ShaWord, ShaArr, ShaHeld, ShaIn, HkIn, ShaLoop, PlInv.
-/
import Derived.Laws.BitsAllLaws
import Derived.WalkKit
import Derived.WalkSpells
import Derived.WalkLawsBesides
import Derived.Deep.WholeRow
import Derived.Laws.ResultCell
import Derived.OrdersHeld
import Derived.Deep.MidRow
import Derived.RangeFuncNested
import Derived.RangeFuncBox
import Derived.RangeFuncBound
import Derived.RangeFuncCalls
import Derived.RangeFuncLeaves
import Derived.Shelf.Abstract
import Derived.Shelf.RegionOpen
import Derived.OwnWalkIn
import Derived.TacticsInMore
import Derived.LoopNIn
import Derived.LoopIn
import Derived.Maps.AppendAt
import Derived.OrdersIn

/-! Words of 32 bits, and the numbers that memory holds of them: no program in sight. -/
namespace Go.Proofs.YtaighdppemnglaaGreatDoor
open Go

abbrev Wd := BitVec 32

/-- A word as the number that memory holds. -/
def u (x : Wd) : Int := (x.toNat : Int)
theorem u_nn (x : Wd) : 0 ≤ u x := by unfold u; omega
theorem u_le (x : Wd) : u x ≤ 4294967295 := by have := x.isLt; unfold u; omega
theorem u_inj {x y : Wd} (h : u x = u y) : x = y := by unfold u at h; apply BitVec.eq_of_toNat_eq; omega

/-- The word of a number. -/
def wd (z : Int) : Wd := BitVec.ofNat 32 z.toNat
theorem u_wd (z : Int) (h0 : 0 ≤ z) (h1 : z ≤ 4294967295) : u (wd z) = z := by
  unfold u wd
  rw [BitVec.toNat_ofNat]
  omega

def xr (a b : Wd) : Wd := a ^^^ b
def an (a b : Wd) : Wd := a &&& b
def oo (a b : Wd) : Wd := a ||| b
def nt (a : Wd) : Wd := ~~~a
def ad (a b : Wd) : Wd := a + b
def sb (a b : Wd) : Wd := a - b
def sr (x : Wd) (n : Nat) : Wd := x >>> n
def sl (x : Wd) (n : Nat) : Wd := x <<< n
/-- Turned right by n bits. -/
def rr (x : Wd) (n : Nat) : Wd := oo (sr x n) (sl x (32 - n))

theorem u_nat (x : Wd) : (u x).toNat = x.toNat := by unfold u; omega
theorem bx (a b : Wd) : bits .xor .u32 (u a) (u b) = u (xr a b) := by
  rw [u32_xor _ _ (u_nn a) (by have := u_le a; omega) (u_nn b) (by have := u_le b; omega), u_nat, u_nat]
  unfold u xr
  rw [BitVec.toNat_xor]
theorem ba (a b : Wd) : bits .and .u32 (u a) (u b) = u (an a b) := by
  rw [u32_and _ _ (u_nn a) (by have := u_le a; omega) (u_nn b) (by have := u_le b; omega), u_nat, u_nat]
  unfold u an
  rw [BitVec.toNat_and]
theorem bo (a b : Wd) : bits .or .u32 (u a) (u b) = u (oo a b) := by
  rw [u32_or _ _ (u_nn a) (by have := u_le a; omega) (u_nn b) (by have := u_le b; omega), u_nat, u_nat]
  unfold u oo
  rw [BitVec.toNat_or]
theorem wadd (a b : Wd) : (u a + u b) % 4294967296 = u (ad a b) := by
  unfold u ad
  rw [BitVec.toNat_add]
  omega
theorem wsub (a b : Wd) : (u a - u b) % 4294967296 = u (sb a b) := by
  have ha := a.isLt
  have hb := b.isLt
  unfold u sb
  rw [BitVec.toNat_sub]
  omega
theorem wnot (a : Wd) : 4294967295 - u a = u (nt a) := by
  have ha := a.isLt
  unfold u nt
  rw [BitVec.toNat_not]
  omega
theorem wsr (a : Wd) (n : Nat) : u a / 2 ^ n = u (sr a n) := by
  unfold u sr
  rw [BitVec.toNat_ushiftRight, Nat.shiftRight_eq_div_pow]
  simp
theorem wsl (a : Wd) (n : Nat) : (u a * 2 ^ n) % 4294967296 = u (sl a n) := by
  unfold u sl
  rw [BitVec.toNat_shiftLeft, Nat.shiftLeft_eq]
  simp

/-- Not, as the walk spells it. -/
theorem bnot (a : Wd) : bits .xor .u32 (if IntKind.u32.signed = true then -1 else IntKind.u32.max) (u a) = u (nt a) := by
  have e : (if IntKind.u32.signed = true then -1 else IntKind.u32.max) = u (BitVec.allOnes 32) := by decide +kernel
  rw [e, bx]
  unfold xr nt
  rw [BitVec.allOnes_xor]

/-- The low five bits of a number of bits that is turned left by its negative. -/
theorem and31 (n : Int) (h0 : 1 ≤ n) (h1 : n ≤ 31) : bits .and .u64 (IntKind.u64.wrap (-n)) 31 = 32 - n := by
  rw [IntKind.wrap_u64, u64_and _ _ (by omega) (by omega) (by omega) (by omega)]
  have e : (31 : Int).toNat = 2 ^ 5 - 1 := rfl
  rw [e, Nat.and_two_pow_sub_one_eq_mod]
  omega
theorem shl32 (x : Wd) (k : IntKind) (n : Int) (h0 : 0 ≤ n) (h1 : n ≤ 31) : Op.shift .shl .u32 (u x) k n = pure (.int .u32 (u (sl x n.toNat))) := by
  rw [← wsl, shift_shl_u32 _ _ _ h0 (by omega), IntKind.wrap_u32']
theorem shr32 (x : Wd) (k : IntKind) (n : Int) (h0 : 0 ≤ n) (h1 : n ≤ 31) : Op.shift .shr .u32 (u x) k n = pure (.int .u32 (u (sr x n.toNat))) := by
  rw [← wsr, shift_shr_u32 _ _ _ h0 (by omega)]
theorem rr_comm (x : Wd) (n : Nat) : oo (sl x (32 - n)) (sr x n) = rr x n := by
  unfold rr oo
  rw [BitVec.or_comm]
end Go.Proofs.YtaighdppemnglaaGreatDoor

/-! Rows of words and bytes in memory: a block that holds a list, whole. -/
namespace Go.Proofs.YtaighdppemnglaaGreatDoor
open Go Go.RowKit

abbrev By := BitVec 8
/-- A byte as the number that memory holds. -/
def v8 (x : By) : Int := (x.toNat : Int)
theorem v8_nn (x : By) : 0 ≤ v8 x := by unfold v8; omega
theorem v8_le (x : By) : v8 x ≤ 255 := by have := x.isLt; unfold v8; omega
theorem v8_inj {x y : By} (h : v8 x = v8 y) : x = y := by unfold v8 at h; apply BitVec.eq_of_toNat_eq; omega

/-- The cells of words, of bytes, of numbers of 64 bits. -/
def ws (xs : List Wd) : Array Value := (xs.map fun x => Value.int .u32 (u x)).toArray
def bs (xs : List By) : Array Value := (xs.map fun x => Value.int .u8 (v8 x)).toArray
def ns (xs : List Nat) : Array Value := (xs.map fun (x : Nat) => Value.int .u64 (x : Int)).toArray
/-- The j-th. -/
def gw (xs : List Wd) (j : Nat) : Wd := xs[j]?.getD 0
def gb (xs : List By) (j : Nat) : By := xs[j]?.getD 0
def gn (xs : List Nat) (j : Nat) : Nat := xs[j]?.getD 0

theorem ws_size (xs : List Wd) : (ws xs).size = xs.length := by simp [ws]
theorem bs_size (xs : List By) : (bs xs).size = xs.length := by simp [bs]
theorem ns_size (xs : List Nat) : (ns xs).size = xs.length := by simp [ns]
theorem ws_one (xs : List Wd) : (ws xs).all (·.oneCell') = true := by simp [ws, Value.oneCell']
theorem bs_one (xs : List By) : (bs xs).all (·.oneCell') = true := by simp [bs, Value.oneCell']
theorem ns_one (xs : List Nat) : (ns xs).all (·.oneCell') = true := by simp [ns, Value.oneCell']
theorem ws_get (xs : List Wd) (j : Nat) (h : j < xs.length) : (ws xs)[j]? = some (.int .u32 (u (gw xs j))) := by simp [ws, gw, h]
theorem bs_get (xs : List By) (j : Nat) (h : j < xs.length) : (bs xs)[j]? = some (.int .u8 (v8 (gb xs j))) := by simp [bs, gb, h]
theorem ns_get (xs : List Nat) (j : Nat) (h : j < xs.length) : (ns xs)[j]? = some (.int .u64 (gn xs j : Int)) := by simp [ns, gn, h]
theorem ws_set (xs : List Wd) (j : Nat) (x : Wd) : (ws xs).setIfInBounds j (.int .u32 (u x)) = ws (xs.set j x) := by
  apply Array.ext'
  simp [ws, List.map_set]
theorem bs_set (xs : List By) (j : Nat) (x : By) : (bs xs).setIfInBounds j (.int .u8 (v8 x)) = bs (xs.set j x) := by
  apply Array.ext'
  simp [bs, List.map_set]
theorem ns_set (xs : List Nat) (j : Nat) (x : Nat) : (ns xs).setIfInBounds j (.int .u64 (x : Int)) = ns (xs.set j x) := by
  apply Array.ext'
  simp [ns, List.map_set]
theorem ws_inj {xs ys : List Wd} (h : ws xs = ws ys) : xs = ys := by
  unfold ws at h
  have h' := congrArg Array.toList h
  simp only at h'
  exact (List.map_inj_right (fun x y e => u_inj (by injection e))).1 h'
theorem bs_inj {xs ys : List By} (h : bs xs = bs ys) : xs = ys := by
  unfold bs at h
  have h' := congrArg Array.toList h
  simp only at h'
  exact (List.map_inj_right (fun x y e => v8_inj (by injection e))).1 h'

/-- The block g holds the cells cs, whole, and may be written. -/
def Row (w : World) (g : Nat) (t : TypeId) (cs : Array Value) : Prop := w.heap[g]? = some (.cells cs t (0, 0))

theorem Row.lt {w : World} {g : Nat} {t : TypeId} {cs : Array Value} (h : Row w g t cs) : g < w.heap.size := (Array.getElem?_eq_some_iff.1 h).1
theorem Row.cell {w : World} {g : Nat} {t : TypeId} {cs : Array Value} (h : Row w g t cs) (j : Nat) : w.cell? ⟨g, j, none⟩ = cs[j]? := cell_of_row w g j cs t (0, 0) h
theorem Row.cellW {w : World} {g : Nat} {t : TypeId} {xs : List Wd} (h : Row w g t (ws xs)) {j : Nat} (hj : j < xs.length) : w.cell? ⟨g, j, none⟩ = some (.int .u32 (u (gw xs j))) := (h.cell j).trans (ws_get xs j hj)
theorem Row.cellB {w : World} {g : Nat} {t : TypeId} {xs : List By} (h : Row w g t (bs xs)) {j : Nat} (hj : j < xs.length) : w.cell? ⟨g, j, none⟩ = some (.int .u8 (v8 (gb xs j))) := (h.cell j).trans (bs_get xs j hj)
theorem Row.cellN {w : World} {g : Nat} {t : TypeId} {xs : List Nat} (h : Row w g t (ns xs)) {j : Nat} (hj : j < xs.length) : w.cell? ⟨g, j, none⟩ = some (.int .u64 (gn xs j : Int)) := (h.cell j).trans (ns_get xs j hj)
theorem Row.frozen {w : World} {g : Nat} {t : TypeId} {cs : Array Value} (h : Row w g t cs) (j : Nat) : w.frozen? ⟨g, j, none⟩ = false := frozen_of_row w g j cs t h
theorem Row.new (w : World) (t : TypeId) (cs : Array Value) : Row (w.alloc (.cells cs t)) w.heap.size t cs := heap_alloc_new w _
theorem Row.alloc {w : World} {g : Nat} {t : TypeId} {cs : Array Value} (h : Row w g t cs) (o : Obj) : Row (w.alloc o) g t cs := (Below.heap_alloc w o g h.lt).trans h
theorem Row.drew {w : World} {g : Nat} {t : TypeId} {cs : Array Value} (h : Row w g t cs) : Row w.drew g t cs := h
theorem Row.set {w : World} {g : Nat} {t : TypeId} {cs : Array Value} (h : Row w g t cs) (j : Nat) (v : Value) : Row (w.setCell ⟨g, j, none⟩ v) g t (cs.setIfInBounds j v) := heap_setCell_same w g j cs t v h
theorem Row.other {w : World} {g : Nat} {t : TypeId} {cs : Array Value} (h : Row w g t cs) {a : Addr} (ha : g ≠ a.block) (v : Value) : Row (w.setCell a v) g t cs := (heap_setCell_other w a g v ha).trans h
theorem Row.below {w w' : World} {n g : Nat} {t : TypeId} {cs : Array Value} (h : Row w g t cs) (hb : Below n w w') (hg : g < n) : Row w' g t cs := (hb.block g hg).trans h
theorem Row.put {w : World} {g : Nat} {t : TypeId} {cs : Array Value} (h : Row w g t cs) (cs' : Array Value) : Row (w.setRow g cs') g t cs' := setRow_heap w g cs cs' t (0, 0) h
theorem Row.putOther {w : World} {g k : Nat} {t : TypeId} {cs : Array Value} (h : Row w g t cs) (hk : g ≠ k) (cs' : Array Value) : Row (w.setRow k cs') g t cs := (setRow_other w k g cs' hk).trans h

theorem bSetRow {B : Nat} {a w : World} (h : Below B a w) {g : Nat} (hg : B ≤ g) (cs : Array Value) : Below B a (w.setRow g cs) :=
  ⟨h.os, h.tape, h.output, by rw [setRow_size]; exact h.size, fun k hk => (setRow_other w g k cs (by omega)).trans (h.block k hk)⟩

theorem bcell {W w1 : World} (hb : Below W.heap.size W w1) : (∀ b o, b < W.heap.size → w1.cell? ⟨b, o, none⟩ = W.cell? ⟨b, o, none⟩) ∧ (∀ b o, b < W.heap.size → w1.frozen? ⟨b, o, none⟩ = W.frozen? ⟨b, o, none⟩) :=
  ⟨fun b o h => hb.cell (p := ⟨b, o, none⟩) h, fun b o h => hb.frozen (p := ⟨b, o, none⟩) h⟩
/-- Where a row lies that was made one, two, three blocks ago. -/
theorem Row.new1 (w : World) (o : Obj) (t : TypeId) (cs : Array Value) : Row ((w.alloc o).alloc (.cells cs t)) (w.heap.size + 1) t cs := by
  have := Row.new (w.alloc o) t cs
  rw [World.size_alloc] at this
  exact this
theorem Row.new2 (w : World) (o o' : Obj) (t : TypeId) (cs : Array Value) : Row (((w.alloc o).alloc o').alloc (.cells cs t)) (w.heap.size + 1 + 1) t cs := by
  have := Row.new1 (w.alloc o) o' t cs
  rw [World.size_alloc] at this
  exact this
theorem Row.new3 (w : World) (o o' o2 : Obj) (t : TypeId) (cs : Array Value) : Row ((((w.alloc o).alloc o').alloc o2).alloc (.cells cs t)) (w.heap.size + 1 + 1 + 1) t cs := by
  have := Row.new2 (w.alloc o) o' o2 t cs
  rw [World.size_alloc] at this
  exact this

/-- Eight cells, stored one behind the other. -/
def put8 (w : World) (g : Nat) (v0 v1 v2 v3 v4 v5 v6 v7 : Value) : World := ((((((((w.setCell ⟨g, 0, none⟩ v0).setCell ⟨g, 1, none⟩ v1).setCell ⟨g, 2, none⟩ v2).setCell ⟨g, 3, none⟩ v3).setCell ⟨g, 4, none⟩ v4).setCell ⟨g, 5, none⟩ v5).setCell ⟨g, 6, none⟩ v6).setCell ⟨g, 7, none⟩ v7)
theorem put8_row {w : World} {g : Nat} {t : TypeId} {cs : Array Value} (h : Row w g t cs) (h8 : cs.size = 8) (v0 v1 v2 v3 v4 v5 v6 v7 : Value) : Row (put8 w g v0 v1 v2 v3 v4 v5 v6 v7) g t #[v0, v1, v2, v3, v4, v5, v6, v7] := by
  have e : (((((((cs.setIfInBounds 0 v0).setIfInBounds 1 v1).setIfInBounds 2 v2).setIfInBounds 3 v3).setIfInBounds 4 v4).setIfInBounds 5 v5).setIfInBounds 6 v6).setIfInBounds 7 v7 = #[v0, v1, v2, v3, v4, v5, v6, v7] := by
    obtain ⟨l⟩ := cs
    match l, h8 with
    | [a, b, c, d, e, f, g, i], _ => simp
  rw [← e]
  exact (((((((h.set 0 v0).set 1 v1).set 2 v2).set 3 v3).set 4 v4).set 5 v5).set 6 v6).set 7 v7
theorem put8_other {w : World} {g g' : Nat} {t : TypeId} {cs : Array Value} (h : Row w g t cs) (hg : g ≠ g') (v0 v1 v2 v3 v4 v5 v6 v7 : Value) : Row (put8 w g' v0 v1 v2 v3 v4 v5 v6 v7) g t cs :=
  (((((((h.other hg v0).other hg v1).other hg v2).other hg v3).other hg v4).other hg v5).other hg v6).other hg v7
theorem put8_below {B : Nat} {a w : World} (h : Below B a w) {g : Nat} (hg : B ≤ g) (v0 v1 v2 v3 v4 v5 v6 v7 : Value) : Below B a (put8 w g v0 v1 v2 v3 v4 v5 v6 v7) :=
  (((((((h.setCell (p := ⟨g, 0, none⟩) hg v0).setCell (p := ⟨g, 1, none⟩) hg v1).setCell (p := ⟨g, 2, none⟩) hg v2).setCell (p := ⟨g, 3, none⟩) hg v3).setCell (p := ⟨g, 4, none⟩) hg v4).setCell (p := ⟨g, 5, none⟩) hg v5).setCell (p := ⟨g, 6, none⟩) hg v6).setCell (p := ⟨g, 7, none⟩) hg v7

section
variable {P : Program}
/-- A whole array is loaded. -/
theorem load_row {ops : Array Oper} {rest : List Oper} {o : Oper} {a : Act} {w : World} {Q : Exit → Act → World → Prop} (hgd : o.guard = none) (ty : TypeId) (x : Operand) (ho : o.op = .load ty x)
    (g : Nat) (hx : a.eval x = .pointer (some ⟨g, 0, none⟩)) (t : TypeId) (cs : Array Value) (hg : Row w g t cs) (n : Nat) (e : TypeId)
    (hu : P.underlying ty = some (.array n e)) (hi : (P.info? ty).map (·.size) = some n) (hc : cs.size = n)
    (h : wpList P ops Q rest (a.put o.dst (.agg cs)) w) : wpList P ops Q (o :: rest) a w :=
  wpList_load_row hgd ty x ho g hx t cs (0, 0) _ hg hu rfl (by rw [hc]; exact hi) h

/-- An element of an array that is a value. -/
theorem run_index (t e : TypeId) (n : Nat) (d : TypeDesc) (cs : Array Value) (k : Nat) (v : Value) (hu : P.underlying t = some (.array n e)) (he : P.underlying e = some d) (hd : (match d with | .struct _ | .array _ _ => true | _ => false) = false)
    (hi : (P.info? e).map (·.size) = some 1) (hk : k < n) (hv : cs[k]? = some v) (w : World) : (Instr.index t (.agg cs) (.int .i64 (k : Int))).run P w = .ok v w := by
  have hsz : (sizeOf e).run P w = .ok 1 w := by
    cases hq : P.info? e with
    | none => simp [hq] at hi
    | some i =>
      have : i.size = 1 := by simpa [hq] using hi
      simp [sizeOf, typeInfo, hq, this]
  have hag : (isAgg e).run P w = .ok false w := by
    unfold isAgg
    rw [Sem.run_bind, run_underlying he w]
    cases d <;> simp_all
  simp [Instr.index, asIntOf, run_underlying hu, hk, hsz, part, hag, hv]

theorem wp_store_row {op : Oper} {a : Act} {w : World} {K : Act → World → Prop} {Q : Exit → Act → World → Prop} (ty : TypeId) (x y : Operand) (ho : op.op = .store ty x y)
    (g : Nat) (cs : Array Value) (hx : a.eval x = .pointer (some ⟨g, 0, none⟩)) (hy : a.eval y = .agg cs) (t : TypeId) (old : Array Value) (hg : Row w g t old)
    (hi : (P.info? ty).map (·.size) = some cs.size) (hs : old.size = cs.size) (h1 : cs.all (·.oneCell') = true)
    (h : K (a.put op.dst undef) (w.setRow g cs)) : op.wp P a w K Q := by
  unfold Oper.wp execOp
  simp only [ho, hx, hy, Instr.storeAt, Instr.sureAddr, Sem.run_bind, Sem.run_pure, Result.andThen_ok, run_storeVar_row w g t ty old cs hg hi hs h1]
  exact h

/-- A whole array is stored. -/
theorem store_row {ops : Array Oper} {rest : List Oper} {op : Oper} {a : Act} {w : World} {Q : Exit → Act → World → Prop} (hgd : op.guard = none) (ty : TypeId) (x y : Operand) (ho : op.op = .store ty x y)
    (g : Nat) (cs : Array Value) (hx : a.eval x = .pointer (some ⟨g, 0, none⟩)) (hy : a.eval y = .agg cs) (t : TypeId) (old : Array Value) (hg : Row w g t old)
    (n : Nat) (hi : (P.info? ty).map (·.size) = some n) (hs : old.size = n) (hc : cs.size = n) (h1 : cs.all (·.oneCell') = true)
    (h : wpList P ops Q rest (a.put op.dst undef) (w.setRow g cs)) : wpList P ops Q (op :: rest) a w :=
  wpList_plain hgd fun _ hK => wp_store_row ty x y ho g cs hx hy t old hg (by rw [hc]; exact hi) (by omega) h1 (hK _ _ h)

/-- A whole array is built. -/
theorem build_row {ops : Array Oper} {rest : List Oper} {o : Oper} {a : Act} {w : World} {Q : Exit → Act → World → Prop} (hgd : o.guard = none) (t : TypeId) (parts : Array (Nat × Operand)) (ho : o.op = .build t parts)
    (cs : Array Value) (hb : P.built t (parts.map fun (i, x) => (i, a.eval x)).toList = some cs) (h : wpList P ops Q rest (a.put o.dst (.agg cs)) w) : wpList P ops Q (o :: rest) a w :=
  wpList_plain hgd fun _ hK => wp_build t parts ho (by rw [hb]; rfl) (by rw [hb]; exact hK _ _ h)

/-- A whole array is stored into the block that was made last. -/
theorem store_new {ops : Array Oper} {rest : List Oper} {op : Oper} {a : Act} {w : World} {Q : Exit → Act → World → Prop} (hgd : op.guard = none) (ty : TypeId) (x y : Operand) (ho : op.op = .store ty x y)
    (g : Nat) (cs : Array Value) (hx : a.eval x = .pointer (some ⟨g, 0, none⟩)) (hy : a.eval y = .agg cs) (t : TypeId) (old : Array Value) (hg : w.heap.size = g)
    (n : Nat) (hi : (P.info? ty).map (·.size) = some n) (hs : old.size = n) (hc : cs.size = n) (h1 : cs.all (·.oneCell') = true)
    (h : wpList P ops Q rest (a.put op.dst undef) (w.alloc (.cells cs t))) : wpList P ops Q (op :: rest) a (w.alloc (.cells old t)) := by
  subst hg
  refine store_row hgd ty x y ho w.heap.size cs hx hy t old (Row.new _ _ _) n hi hs hc h1 ?_
  rw [World.setRow_alloc_new]
  exact h

/-- A whole array is handed back. -/
theorem result_row {fn : Func} {p : Tmp} {ty : TypeId} (h : fn.results = #[.cell p ty]) (tmps : Array Value) (w : World) (g : Nat) (t : TypeId) (cs : Array Value) (hg : Row w g t cs) (n : Nat) (e : TypeId)
    (hp : tmps.getD p undef = .pointer (some ⟨g, 0, none⟩)) (hu : P.underlying ty = some (.array n e)) (hi : (P.info? ty).map (·.size) = some n) (hc : cs.size = n) :
    (results fn tmps).run P w = .ok (.agg cs) w :=
  results_cell_row h tmps w g t cs (0, 0) _ hp hg hu rfl (by rw [hc]; exact hi)

/-- A whole array is handed back, with a second result. -/
theorem result_row_tmp {fn : Func} {p q : Tmp} {ty : TypeId} (h : fn.results = #[.cell p ty, .tmp q]) (tmps : Array Value) (w : World) (g : Nat) (t : TypeId) (cs : Array Value) (hg : Row w g t cs) (n : Nat) (e : TypeId) (v : Value)
    (hp : tmps.getD p undef = .pointer (some ⟨g, 0, none⟩)) (hq : tmps.getD q undef = v) (hu : P.underlying ty = some (.array n e)) (hi : (P.info? ty).map (·.size) = some n) (hc : cs.size = n) :
    (results fn tmps).run P w = .ok (.tuple #[.agg cs, v]) w := by
  rw [results_cell_tmp h, hp, hq]
  simp [asAddr, Result.andThen, run_loadVar_row w g t ty cs (0, 0) _ hg hu rfl (by rw [hc]; exact hi)]
end
theorem add_at (g o j : Nat) : (⟨g, o, none⟩ : Addr).add j = ⟨g, o + j, none⟩ := by
  unfold Addr.add
  split
  · rename_i h; rw [h]; rfl
  · rfl
end Go.Proofs.YtaighdppemnglaaGreatDoor

/-! A region that draws its order: whole arrays are loaded first, then what calls, then what stores: laws for a walk by hand. -/
namespace Go.Proofs.YtaighdppemnglaaGreatDoor
open Go Go.RowKit

section
variable {P : Program} {ops : Array Oper} {Q : Exit → Act → World → Prop} {md : Region.Mode} {S : World → Prop} {fuel : Nat} {listed : Array Bool} {a : Act} {w : World}

theorem run_load_row {o : Oper} (ty : TypeId) (x : Operand) (ho : o.op = .load ty x) (g : Nat) (hx : a.eval x = .pointer (some ⟨g, 0, none⟩)) (t : TypeId) (cs : Array Value) (n : Nat) (e : TypeId)
    (hu : P.underlying ty = some (.array n e)) (hi : (P.info? ty).map (·.size) = some n) (hc : cs.size = n) (W : World) (hg : Row W g t cs) : (execOp a.eval o).run P W = .ok (.value (.agg cs)) W := by
  unfold execOp
  simp only [ho, hx, Instr.loadAt, Instr.sureAddr, Sem.run_bind, Sem.run_pure, Result.andThen_ok, run_loadVar_row W g t ty cs (0, 0) _ hg hu rfl (by rw [hc]; exact hi)]

/-- The beginning, at whatever world in which S holds. -/
theorem held_any {id : Nat} (hm : P.follows .mixedOrders = true) (hS : S w.drew) (h : ∀ W, S W → wpAnyH P .any ops Q S ops.size (Array.replicate ops.size false) a W) : (Code.region id ops true).wp P Q a w :=
  wp_region_held hm (h w.drew hS)

/-- A whole array is loaded first. -/
theorem H_load {o : Oper} (i : Nat) (ty : TypeId) (x : Operand) (g : Nat) (t : TypeId) (cs : Array Value) (n : Nat) (e : TypeId) (hi : ops[i]? = some o) (ho : o.op = .load ty x) (hx : a.eval x = .pointer (some ⟨g, 0, none⟩))
    (hu : P.underlying ty = some (.array n e)) (hin : (P.info? ty).map (·.size) = some n) (hc : cs.size = n) (hSR : ∀ W, S W → Row W g t cs)
    (hs : Region.noSelect ops = true) (hf : Region.free md ops listed i = true) (hr : (Region.ready md ops listed).contains i = true)
    (hQ : ∀ c a v w, Q (.panic c) (a.put o.dst v) w → Q (.panic c) a w) (hw : Region.wanted o (yielded ops a.tmps) = true) (hS : S w)
    (h : wpAnyH P md ops Q S fuel (listed.setIfInBounds i true) (a.put o.dst (.agg cs)) w) : wpAnyH P md ops Q S (fuel + 1) listed a w :=
  wpAnyH_take hi hs hf hr (fun c a w => hQ c a _ w) (.inl ⟨hw, fun W hW => run_load_row ty x ho g hx t cs n e hu hin hc W (hSR W hW)⟩) hS h

/-- What comes up alone, and calls. -/
theorem H_call {o : Oper} (i : Nat) (f : Nat) (args : Array Value) (hi : ops[i]? = some o) (hr : Region.ready md ops listed = [i]) (hw : Region.wanted o (yielded ops a.tmps) = true)
    (he : (execOp a.eval o).run P w = .ok (.enter f args) w)
    (hc : Calls P f args w fun e w' => ∃ v, e = .returned v ∧ S w' ∧ wpAnyH P md ops Q S fuel (listed.setIfInBounds i true) (a.put o.dst v) w') : wpAnyH P md ops Q S (fuel + 1) listed a w := by
  refine wpAnyH_all hr (by simp) (fun j hj => ?_)
  obtain rfl : j = i := by simpa using hj
  unfold wpOp
  simp only [hi, hw, if_true]
  refine .inl ?_
  unfold Oper.wp
  rw [he]
  exact hc.mono (by rintro e w' ⟨v, rfl, h⟩; exact h)

/-- What comes up alone, and stores a whole array. -/
theorem H_store {o : Oper} (i : Nat) (ty : TypeId) (x y : Operand) (g : Nat) (cs : Array Value) (t : TypeId) (old : Array Value) (n : Nat) (hi : ops[i]? = some o) (hr : Region.ready md ops listed = [i]) (hw : Region.wanted o (yielded ops a.tmps) = true) (ho : o.op = .store ty x y)
    (hx : a.eval x = .pointer (some ⟨g, 0, none⟩)) (hy : a.eval y = .agg cs) (hg : Row w g t old) (hin : (P.info? ty).map (·.size) = some n) (hs : old.size = n) (hc : cs.size = n) (h1 : cs.all (·.oneCell') = true)
    (h : S (w.setRow g cs) ∧ wpAnyH P md ops Q S fuel (listed.setIfInBounds i true) (a.put o.dst undef) (w.setRow g cs)) : wpAnyH P md ops Q S (fuel + 1) listed a w := by
  refine wpAnyH_all hr (by simp) (fun j hj => ?_)
  obtain rfl : j = i := by simpa using hj
  unfold wpOp
  simp only [hi, hw, if_true]
  refine .inl ?_
  exact wp_store_row ty x y ho g cs hx hy t old hg (by rw [hc]; exact hin) (by omega) h1 h

/-- What comes up, and only reckons. -/
theorem H_value {o : Oper} (i : Nat) (v : Value) (hi : ops[i]? = some o) (hr : Region.ready md ops listed = [i]) (hw : Region.wanted o (yielded ops a.tmps) = true)
    (he : (execOp a.eval o).run P w = .ok (.value v) w) (h : S w ∧ wpAnyH P md ops Q S fuel (listed.setIfInBounds i true) (a.put o.dst v) w) : wpAnyH P md ops Q S (fuel + 1) listed a w := by
  refine wpAnyH_all hr (by simp) (fun j hj => ?_)
  obtain rfl : j = i := by simpa using hj
  unfold wpOp
  simp only [hi, hw, if_true]
  refine .inl ?_
  unfold Oper.wp
  rw [he]
  exact h
end
end Go.Proofs.YtaighdppemnglaaGreatDoor

/-! Whole arrays inside a fence: laws of the walk. -/
namespace Go.Proofs.YtaighdppemnglaaGreatDoor
open Go Go.RowKit

section
variable {F : Fence} {n : Nat} {P : Program} {ops : Array Oper} {rest : List Oper} {o : Oper} {a : Act} {w : World} {Q : Exit → Act → World → Prop}

theorem about_none (h : ∀ c, o.op ≠ .call c) : o.about P w a.eval = none := by
  unfold Oper.about
  split
  · rename_i c hc; exact absurd hc (h c)
  · rfl

theorem plain_value (hgd : o.guard = none) (hc : ∀ c, o.op ≠ .call c) (hd : ∀ c, o.op ≠ .defer c) (v : Value) (he : (execOp a.eval o).run P w = .ok (.value v) w)
    (h : wpListIn F n P ops Q rest (a.put o.dst v) w) : wpListIn F n P ops Q (o :: rest) a w :=
  wpListIn_plain hgd fun _ hK => ⟨(fun f hf => by rw [about_none hc] at hf; cases hf), (by rw [Oper.semAt_eq _ _ _ hd, he]; exact hK _ _ h)⟩
theorem plain_skip (hgd : o.guard = none) (hc : ∀ c, o.op ≠ .call c) (hd : ∀ c, o.op ≠ .defer c) (w' : World) (he : (execOp a.eval o).run P w = .ok .skip w')
    (h : wpListIn F n P ops Q rest (a.put o.dst undef) w') : wpListIn F n P ops Q (o :: rest) a w :=
  wpListIn_plain hgd fun _ hK => ⟨(fun f hf => by rw [about_none hc] at hf; cases hf), (by rw [Oper.semAt_eq _ _ _ hd, he]; exact hK _ _ h)⟩

theorem load_rowIn (hgd : o.guard = none) (ty : TypeId) (x : Operand) (ho : o.op = .load ty x) (g : Nat) (hx : a.eval x = .pointer (some ⟨g, 0, none⟩)) (t : TypeId) (cs : Array Value) (hg : Row w g t cs) (m : Nat) (e : TypeId)
    (hu : P.underlying ty = some (.array m e)) (hi : (P.info? ty).map (·.size) = some m) (hc : cs.size = m) (h : wpListIn F n P ops Q rest (a.put o.dst (.agg cs)) w) : wpListIn F n P ops Q (o :: rest) a w :=
  plain_value hgd (by simp [ho]) (by simp [ho]) _ (run_load_row ty x ho g hx t cs m e hu hi hc w hg) h

/-- A whole array in the midst of a block. -/
theorem load_midIn (hgd : o.guard = none) (ty : TypeId) (x : Operand) (ho : o.op = .load ty x) (g off : Nat) (hx : a.eval x = .pointer (some ⟨g, off, none⟩)) (cs : List Value) (hg : w.rangeAt g off cs) (m : Nat) (e : TypeId)
    (hu : P.underlying ty = some (.array m e)) (hi : (P.info? ty).map (·.size) = some m) (hc : cs.length = m) (h : wpListIn F n P ops Q rest (a.put o.dst (.agg cs.toArray)) w) : wpListIn F n P ops Q (o :: rest) a w :=
  plain_value hgd (by simp [ho]) (by simp [ho]) _ (by
    unfold execOp
    simp only [ho, hx, Instr.loadAt, Instr.sureAddr, Sem.run_bind, Sem.run_pure, Result.andThen_ok, run_loadVar_mid w g off ty cs _ hg hu rfl (by rw [hc]; exact hi)]) h

theorem run_store_row (ty : TypeId) (x y : Operand) (ho : o.op = .store ty x y) (g : Nat) (cs : Array Value) (hx : a.eval x = .pointer (some ⟨g, 0, none⟩)) (hy : a.eval y = .agg cs) (t : TypeId) (old : Array Value) (hg : Row w g t old)
    (m : Nat) (hi : (P.info? ty).map (·.size) = some m) (hs : old.size = m) (hc : cs.size = m) (h1 : cs.all (·.oneCell') = true) : (execOp a.eval o).run P w = .ok .skip (w.setRow g cs) := by
  unfold execOp
  simp only [ho, hx, hy, Instr.storeAt, Instr.sureAddr, Sem.run_bind, Sem.run_pure, Result.andThen_ok, run_storeVar_row w g t ty old cs hg (by rw [hc]; exact hi) (by omega) h1]
theorem store_rowIn (hgd : o.guard = none) (ty : TypeId) (x y : Operand) (ho : o.op = .store ty x y) (g : Nat) (cs : Array Value) (hx : a.eval x = .pointer (some ⟨g, 0, none⟩)) (hy : a.eval y = .agg cs) (t : TypeId) (old : Array Value) (hg : Row w g t old)
    (m : Nat) (hi : (P.info? ty).map (·.size) = some m) (hs : old.size = m) (hc : cs.size = m) (h1 : cs.all (·.oneCell') = true) (h : wpListIn F n P ops Q rest (a.put o.dst undef) (w.setRow g cs)) : wpListIn F n P ops Q (o :: rest) a w :=
  plain_skip hgd (by simp [ho]) (by simp [ho]) _ (run_store_row ty x y ho g cs hx hy t old hg m hi hs hc h1) h
theorem store_newIn (hgd : o.guard = none) (ty : TypeId) (x y : Operand) (ho : o.op = .store ty x y) (g : Nat) (cs : Array Value) (hx : a.eval x = .pointer (some ⟨g, 0, none⟩)) (hy : a.eval y = .agg cs) (t : TypeId) (old : Array Value) (hg : w.heap.size = g)
    (m : Nat) (hi : (P.info? ty).map (·.size) = some m) (hs : old.size = m) (hc : cs.size = m) (h1 : cs.all (·.oneCell') = true) (h : wpListIn F n P ops Q rest (a.put o.dst undef) (w.alloc (.cells cs t))) : wpListIn F n P ops Q (o :: rest) a (w.alloc (.cells old t)) := by
  subst hg
  refine store_rowIn hgd ty x y ho w.heap.size cs hx hy t old (Row.new _ _ _) m hi hs hc h1 ?_
  rw [World.setRow_alloc_new]
  exact h
/-- A new array, all zero. -/
theorem alloc_rowIn (hgd : o.guard = none) (t : TypeId) (ho : o.op = .alloc t) (cs : Array Value) (hz : (P.info? t).map (·.zero) = some (some (.agg cs))) (h : wpListIn F n P ops Q rest (a.put o.dst (.pointer (some ⟨w.heap.size, 0, none⟩))) (w.alloc (.cells cs t))) : wpListIn F n P ops Q (o :: rest) a w :=
  wpListIn_plain hgd fun _ hK => ⟨(fun f hf => by rw [about_none (by simp [ho])] at hf; cases hf), (by
    rw [Oper.semAt_eq _ _ _ (by simp [ho])]
    have hzv : (zeroValue t).run P w = .ok (.agg cs) w := by
      cases hq : P.info? t with
      | none => simp [hq] at hz
      | some i =>
        have : i.zero = some (.agg cs) := by simpa [hq] using hz
        simp [zeroValue, typeInfo, hq, this]
    have he : (execOp a.eval o).run P w = .ok (.value (.pointer (some ⟨w.heap.size, 0, none⟩))) (w.alloc (.cells cs t)) := by
      unfold execOp
      simp only [ho, Instr.alloc, Sem.run_bind, hzv, Result.andThen_ok, newVar, newRow, Value.cells, run_newObj_alloc, Sem.run_pure]
    rw [he]
    exact hK _ _ h)⟩
theorem build_rowIn (hgd : o.guard = none) (t : TypeId) (parts : Array (Nat × Operand)) (ho : o.op = .build t parts) (cs : Array Value) (hb : P.built t (parts.map fun (i, x) => (i, a.eval x)).toList = some cs)
    (h : wpListIn F n P ops Q rest (a.put o.dst (.agg cs)) w) : wpListIn F n P ops Q (o :: rest) a w :=
  plain_value hgd (by simp [ho]) (by simp [ho]) _ (by
    unfold execOp
    simp only [ho, Sem.run_bind, run_build w t _ cs hb, Result.andThen_ok, Sem.run_pure]) h
end
end Go.Proofs.YtaighdppemnglaaGreatDoor

/-! A region inside a fence that draws its order: operations that come up alone, and many that only read. Written by mkquiet.py. -/
namespace Go.Proofs.YtaighdppemnglaaGreatDoor
open Go Go.RowKit

section
variable {F : Fence} {n : Nat} {P : Program} {ops : Array Oper} {Q : Exit → Act → World → Prop} {md : Region.Mode} {fuel : Nat} {listed : Array Bool} {a : Act} {w : World}
theorem I_all {rs : List Nat} (hr : Region.ready md ops listed = rs) (hne : rs ≠ [])
    (h : ∀ i ∈ rs, wpOpIn F n P ops Q i (wpAnyIn F n P md ops Q fuel (listed.setIfInBounds i true)) a w) : wpAnyIn F n P md ops Q (fuel + 1) listed a w :=
  ⟨fun h0 => absurd (hr ▸ h0) hne, hr ▸ h⟩
theorem I_one (i : Nat) (hr : Region.ready md ops listed = [i]) (h : wpOpIn F n P ops Q i (wpAnyIn F n P md ops Q fuel (listed.setIfInBounds i true)) a w) : wpAnyIn F n P md ops Q (fuel + 1) listed a w :=
  I_all hr (by simp) (fun j hj => by obtain rfl : j = i := by simpa using hj
                                     exact h)
theorem I_done (hr : Region.ready md ops listed = []) (h : Q .normal a w) : ∀ fuel, wpAnyIn F n P md ops Q fuel listed a w
  | 0 => ⟨hr, h⟩
  | _ + 1 => ⟨fun _ => h, by rw [hr]; simp⟩
theorem about_builtin {o : Oper} (b : Builtin) (args : Array Operand) (tys : Array TypeId) (ho : o.op = .call { callee := .builtin b, args := args, argTypes := tys }) : o.about P w a.eval = none := by
  unfold Oper.about
  simp only [ho, resolve, Sem.run_pure]
  rfl
theorem OI_value {o : Oper} {i : Nat} {K : Act → World → Prop} (hi : ops[i]? = some o) (hw : Region.wanted o (yielded ops a.tmps) = true) (hab : o.about P w a.eval = none) (hd : ∀ c, o.op ≠ .defer c) (v : Value) (w' : World)
    (he : (execOp a.eval o).run P w = .ok (.value v) w') (h : K (a.put o.dst v) w') : wpOpIn F n P ops Q i K a w := by
  unfold wpOpIn
  simp only [hi, hw, if_true]
  unfold Oper.wpIn
  refine ⟨fun f hf => (by rw [hab] at hf; cases hf), ?_⟩
  rw [Oper.semAt_eq _ _ _ hd, he]
  exact h
theorem OI_skip {o : Oper} {i : Nat} {K : Act → World → Prop} (hi : ops[i]? = some o) (hw : Region.wanted o (yielded ops a.tmps) = true) (hab : o.about P w a.eval = none) (hd : ∀ c, o.op ≠ .defer c) (w' : World)
    (he : (execOp a.eval o).run P w = .ok .skip w') (h : K (a.put o.dst undef) w') : wpOpIn F n P ops Q i K a w := by
  unfold wpOpIn
  simp only [hi, hw, if_true]
  unfold Oper.wpIn
  refine ⟨fun f hf => (by rw [hab] at hf; cases hf), ?_⟩
  rw [Oper.semAt_eq _ _ _ hd, he]
  exact h
theorem OI_call {o : Oper} {i : Nat} {K : Act → World → Prop} (hi : ops[i]? = some o) (hw : Region.wanted o (yielded ops a.tmps) = true) (hd : ∀ c, o.op ≠ .defer c) (f : Nat) (args : Array Value) (hab : ∀ g, o.about P w a.eval = some g → F.fn g)
    (he : (execOp a.eval o).run P w = .ok (.enter f args) w) (hn : 1 ≤ n) (hc : CallsIn F (n - 1) P f args w fun e w' => ∃ v, e = .returned v ∧ K (a.put o.dst v) w') : wpOpIn F n P ops Q i K a w := by
  unfold wpOpIn
  simp only [hi, hw, if_true]
  unfold Oper.wpIn
  refine ⟨hab, ?_⟩
  rw [Oper.semAt_eq _ _ _ hd, he]
  exact ⟨fun _ => hn, hc.mono (by rintro e w' ⟨v, rfl, h⟩; exact h)⟩
end

set_option maxHeartbeats 1000000 in
theorem quiet_told {F : Fence} {n : Nat} {P : Program} {ops : Array Oper} {Q : Exit → Act → World → Prop} {W : World} (tm : Value → Value → Value → Value → Value → Value → Value → Act) (l : Bool → Bool → Bool → Bool → Bool → Bool → Bool → Array Bool) (x0 x1 x2 x3 x4 x5 x6 : Value)
    (l0 : ∀ c1 c2 c3 c4 c5 c6, (l false c1 c2 c3 c4 c5 c6).setIfInBounds 0 true = l true c1 c2 c3 c4 c5 c6)
    (l1 : ∀ c0 c2 c3 c4 c5 c6, (l c0 false c2 c3 c4 c5 c6).setIfInBounds 1 true = l c0 true c2 c3 c4 c5 c6)
    (l2 : ∀ c0 c1 c3 c4 c5 c6, (l c0 c1 false c3 c4 c5 c6).setIfInBounds 2 true = l c0 c1 true c3 c4 c5 c6)
    (l3 : ∀ c0 c1 c2 c4 c5 c6, (l c0 c1 c2 false c4 c5 c6).setIfInBounds 3 true = l c0 c1 c2 true c4 c5 c6)
    (l4 : ∀ c0 c1 c2 c3 c5 c6, (l c0 c1 c2 c3 false c5 c6).setIfInBounds 4 true = l c0 c1 c2 c3 true c5 c6)
    (l5 : ∀ c0 c1 c2 c3 c4 c6, (l c0 c1 c2 c3 c4 false c6).setIfInBounds 5 true = l c0 c1 c2 c3 c4 true c6)
    (l6 : ∀ c0 c1 c2 c3 c4 c5, (l c0 c1 c2 c3 c4 c5 false).setIfInBounds 6 true = l c0 c1 c2 c3 c4 c5 true)
    (s0 : ∀ y1 y2 y3 y4 y5 y6 (K : Act → World → Prop), K (tm x0 y1 y2 y3 y4 y5 y6) W → wpOpIn F n P ops Q 0 K (tm undef y1 y2 y3 y4 y5 y6) W)
    (s1 : ∀ y0 y2 y3 y4 y5 y6 (K : Act → World → Prop), K (tm y0 x1 y2 y3 y4 y5 y6) W → wpOpIn F n P ops Q 1 K (tm y0 undef y2 y3 y4 y5 y6) W)
    (s2 : ∀ y0 y1 y3 y4 y5 y6 (K : Act → World → Prop), K (tm y0 y1 x2 y3 y4 y5 y6) W → wpOpIn F n P ops Q 2 K (tm y0 y1 undef y3 y4 y5 y6) W)
    (s3 : ∀ y0 y1 y4 y5 y6 (K : Act → World → Prop), K (tm y0 y1 x2 x3 y4 y5 y6) W → wpOpIn F n P ops Q 3 K (tm y0 y1 x2 undef y4 y5 y6) W)
    (s4 : ∀ y0 y2 y5 y6 (K : Act → World → Prop), K (tm y0 x1 y2 x3 x4 y5 y6) W → wpOpIn F n P ops Q 4 K (tm y0 x1 y2 x3 undef y5 y6) W)
    (s5 : ∀ y0 y1 y2 y3 y6 (K : Act → World → Prop), K (tm y0 y1 y2 y3 x4 x5 y6) W → wpOpIn F n P ops Q 5 K (tm y0 y1 y2 y3 x4 undef y6) W)
    (s6 : ∀ y0 y1 y2 y3 y4 (K : Act → World → Prop), K (tm y0 y1 y2 y3 y4 x5 x6) W → wpOpIn F n P ops Q 6 K (tm y0 y1 y2 y3 y4 x5 undef) W)
    (r0111111 : Region.ready .any ops (l false true true true true true true) = [0])
    (r1111110 : Region.ready .any ops (l true true true true true true false) = [6])
    (r0111110 : Region.ready .any ops (l false true true true true true false) = [0, 6])
    (r1111100 : Region.ready .any ops (l true true true true true false false) = [5])
    (r0111100 : Region.ready .any ops (l false true true true true false false) = [0, 5])
    (r1111000 : Region.ready .any ops (l true true true true false false false) = [4])
    (r0111000 : Region.ready .any ops (l false true true true false false false) = [0, 4])
    (r1011000 : Region.ready .any ops (l true false true true false false false) = [1])
    (r1110000 : Region.ready .any ops (l true true true false false false false) = [3])
    (r0011000 : Region.ready .any ops (l false false true true false false false) = [0, 1])
    (r0110000 : Region.ready .any ops (l false true true false false false false) = [0, 3])
    (r1010000 : Region.ready .any ops (l true false true false false false false) = [1, 3])
    (r1100000 : Region.ready .any ops (l true true false false false false false) = [2])
    (r0010000 : Region.ready .any ops (l false false true false false false false) = [0, 1, 3])
    (r0100000 : Region.ready .any ops (l false true false false false false false) = [0, 2])
    (r1000000 : Region.ready .any ops (l true false false false false false false) = [1, 2])
    (r0000000 : Region.ready .any ops (l false false false false false false false) = [0, 1, 2])
    (f : Nat) (hend : wpAnyIn F n P .any ops Q f (l true true true true true true true) (tm x0 x1 x2 x3 x4 x5 x6) W) : wpAnyIn F n P .any ops Q (f + 7) (l false false false false false false false) (tm undef undef undef undef undef undef undef) W := by
  have q1111111 := hend
  have q0111111 : wpAnyIn F n P .any ops Q (f + 1) (l false true true true true true true) (tm undef x1 x2 x3 x4 x5 x6) W := by
    refine I_all r0111111 (by simp) (fun j hj => ?_)
    obtain rfl : j = 0 := by simpa using hj
    refine s0 _ _ _ _ _ _ _ ?_
    rw [l0]
    exact q1111111
  have q1111110 : wpAnyIn F n P .any ops Q (f + 1) (l true true true true true true false) (tm x0 x1 x2 x3 x4 x5 undef) W := by
    refine I_all r1111110 (by simp) (fun j hj => ?_)
    obtain rfl : j = 6 := by simpa using hj
    refine s6 _ _ _ _ _ _ ?_
    rw [l6]
    exact q1111111
  have q0111110 : wpAnyIn F n P .any ops Q (f + 2) (l false true true true true true false) (tm undef x1 x2 x3 x4 x5 undef) W := by
    refine I_all r0111110 (by simp) (fun j hj => ?_)
    rcases (by simpa using hj : j = 0 ∨ j = 6) with rfl | rfl
    · refine s0 _ _ _ _ _ _ _ ?_
      rw [l0]
      exact q1111110
    · refine s6 _ _ _ _ _ _ ?_
      rw [l6]
      exact q0111111
  have q1111100 : wpAnyIn F n P .any ops Q (f + 2) (l true true true true true false false) (tm x0 x1 x2 x3 x4 undef undef) W := by
    refine I_all r1111100 (by simp) (fun j hj => ?_)
    obtain rfl : j = 5 := by simpa using hj
    refine s5 _ _ _ _ _ _ ?_
    rw [l5]
    exact q1111110
  have q0111100 : wpAnyIn F n P .any ops Q (f + 3) (l false true true true true false false) (tm undef x1 x2 x3 x4 undef undef) W := by
    refine I_all r0111100 (by simp) (fun j hj => ?_)
    rcases (by simpa using hj : j = 0 ∨ j = 5) with rfl | rfl
    · refine s0 _ _ _ _ _ _ _ ?_
      rw [l0]
      exact q1111100
    · refine s5 _ _ _ _ _ _ ?_
      rw [l5]
      exact q0111110
  have q1111000 : wpAnyIn F n P .any ops Q (f + 3) (l true true true true false false false) (tm x0 x1 x2 x3 undef undef undef) W := by
    refine I_all r1111000 (by simp) (fun j hj => ?_)
    obtain rfl : j = 4 := by simpa using hj
    refine s4 _ _ _ _ _ ?_
    rw [l4]
    exact q1111100
  have q0111000 : wpAnyIn F n P .any ops Q (f + 4) (l false true true true false false false) (tm undef x1 x2 x3 undef undef undef) W := by
    refine I_all r0111000 (by simp) (fun j hj => ?_)
    rcases (by simpa using hj : j = 0 ∨ j = 4) with rfl | rfl
    · refine s0 _ _ _ _ _ _ _ ?_
      rw [l0]
      exact q1111000
    · refine s4 _ _ _ _ _ ?_
      rw [l4]
      exact q0111100
  have q1011000 : wpAnyIn F n P .any ops Q (f + 4) (l true false true true false false false) (tm x0 undef x2 x3 undef undef undef) W := by
    refine I_all r1011000 (by simp) (fun j hj => ?_)
    obtain rfl : j = 1 := by simpa using hj
    refine s1 _ _ _ _ _ _ _ ?_
    rw [l1]
    exact q1111000
  have q1110000 : wpAnyIn F n P .any ops Q (f + 4) (l true true true false false false false) (tm x0 x1 x2 undef undef undef undef) W := by
    refine I_all r1110000 (by simp) (fun j hj => ?_)
    obtain rfl : j = 3 := by simpa using hj
    refine s3 _ _ _ _ _ _ ?_
    rw [l3]
    exact q1111000
  have q0011000 : wpAnyIn F n P .any ops Q (f + 5) (l false false true true false false false) (tm undef undef x2 x3 undef undef undef) W := by
    refine I_all r0011000 (by simp) (fun j hj => ?_)
    rcases (by simpa using hj : j = 0 ∨ j = 1) with rfl | rfl
    · refine s0 _ _ _ _ _ _ _ ?_
      rw [l0]
      exact q1011000
    · refine s1 _ _ _ _ _ _ _ ?_
      rw [l1]
      exact q0111000
  have q0110000 : wpAnyIn F n P .any ops Q (f + 5) (l false true true false false false false) (tm undef x1 x2 undef undef undef undef) W := by
    refine I_all r0110000 (by simp) (fun j hj => ?_)
    rcases (by simpa using hj : j = 0 ∨ j = 3) with rfl | rfl
    · refine s0 _ _ _ _ _ _ _ ?_
      rw [l0]
      exact q1110000
    · refine s3 _ _ _ _ _ _ ?_
      rw [l3]
      exact q0111000
  have q1010000 : wpAnyIn F n P .any ops Q (f + 5) (l true false true false false false false) (tm x0 undef x2 undef undef undef undef) W := by
    refine I_all r1010000 (by simp) (fun j hj => ?_)
    rcases (by simpa using hj : j = 1 ∨ j = 3) with rfl | rfl
    · refine s1 _ _ _ _ _ _ _ ?_
      rw [l1]
      exact q1110000
    · refine s3 _ _ _ _ _ _ ?_
      rw [l3]
      exact q1011000
  have q1100000 : wpAnyIn F n P .any ops Q (f + 5) (l true true false false false false false) (tm x0 x1 undef undef undef undef undef) W := by
    refine I_all r1100000 (by simp) (fun j hj => ?_)
    obtain rfl : j = 2 := by simpa using hj
    refine s2 _ _ _ _ _ _ _ ?_
    rw [l2]
    exact q1110000
  have q0010000 : wpAnyIn F n P .any ops Q (f + 6) (l false false true false false false false) (tm undef undef x2 undef undef undef undef) W := by
    refine I_all r0010000 (by simp) (fun j hj => ?_)
    rcases (by simpa using hj : j = 0 ∨ j = 1 ∨ j = 3) with rfl | rfl | rfl
    · refine s0 _ _ _ _ _ _ _ ?_
      rw [l0]
      exact q1010000
    · refine s1 _ _ _ _ _ _ _ ?_
      rw [l1]
      exact q0110000
    · refine s3 _ _ _ _ _ _ ?_
      rw [l3]
      exact q0011000
  have q0100000 : wpAnyIn F n P .any ops Q (f + 6) (l false true false false false false false) (tm undef x1 undef undef undef undef undef) W := by
    refine I_all r0100000 (by simp) (fun j hj => ?_)
    rcases (by simpa using hj : j = 0 ∨ j = 2) with rfl | rfl
    · refine s0 _ _ _ _ _ _ _ ?_
      rw [l0]
      exact q1100000
    · refine s2 _ _ _ _ _ _ _ ?_
      rw [l2]
      exact q0110000
  have q1000000 : wpAnyIn F n P .any ops Q (f + 6) (l true false false false false false false) (tm x0 undef undef undef undef undef undef) W := by
    refine I_all r1000000 (by simp) (fun j hj => ?_)
    rcases (by simpa using hj : j = 1 ∨ j = 2) with rfl | rfl
    · refine s1 _ _ _ _ _ _ _ ?_
      rw [l1]
      exact q1100000
    · refine s2 _ _ _ _ _ _ _ ?_
      rw [l2]
      exact q1010000
  have q0000000 : wpAnyIn F n P .any ops Q (f + 7) (l false false false false false false false) (tm undef undef undef undef undef undef undef) W := by
    refine I_all r0000000 (by simp) (fun j hj => ?_)
    rcases (by simpa using hj : j = 0 ∨ j = 1 ∨ j = 2) with rfl | rfl | rfl
    · refine s0 _ _ _ _ _ _ _ ?_
      rw [l0]
      exact q1000000
    · refine s1 _ _ _ _ _ _ _ ?_
      rw [l1]
      exact q0100000
    · refine s2 _ _ _ _ _ _ _ ?_
      rw [l2]
      exact q0010000
  exact q0000000
end Go.Proofs.YtaighdppemnglaaGreatDoor

/-! A range over a function whose iterator writes into memory of its own between two rounds, and whose body writes one block alone and is never left early. -/
namespace Go.Proofs.YtaighdppemnglaaGreatDoor
open Go Go.RowKit Go.Shelf

theorem veil {p : Prop} (h : p) : Hid p := h
/-- All blocks but one lie as they lay. -/
structure Keep1 (st : Nat) (W W' : World) : Prop where
  os : W'.os = W.os
  tape : W'.tape = W.tape
  output : W'.output = W.output
  size : W.heap.size ≤ W'.heap.size
  block : ∀ k, k < W.heap.size → k ≠ st → W'.heap[k]? = W.heap[k]?

theorem Keep1.refl (st : Nat) (W : World) : Keep1 st W W := ⟨rfl, rfl, rfl, Nat.le_refl _, fun _ _ _ => rfl⟩
theorem Keep1.trans {st : Nat} {A B C : World} (h : Keep1 st A B) (k : Keep1 st B C) : Keep1 st A C :=
  ⟨k.os.trans h.os, k.tape.trans h.tape, k.output.trans h.output, Nat.le_trans h.size k.size, fun i hi hs => (k.block i (Nat.lt_of_lt_of_le hi h.size) hs).trans (h.block i hi hs)⟩
theorem Keep1.of_below {st : Nat} {W W' : World} (h : Below W.heap.size W W') : Keep1 st W W' := ⟨h.os, h.tape, h.output, h.size, fun k hk _ => h.block k hk⟩
theorem Keep1.setRow (st : Nat) (W : World) (cs : Array Value) : Keep1 st W (W.setRow st cs) := ⟨rfl, rfl, rfl, by rw [setRow_size]; exact Nat.le_refl _, fun k _ hk => setRow_other W st k cs hk⟩
theorem Keep1.below {st B : Nat} {W W' : World} (h : Keep1 st W W') (hB : B ≤ st) (hs : B ≤ W.heap.size) : Below B W W' := ⟨h.os, h.tape, h.output, h.size, fun k hk => h.block k (by omega) (by omega)⟩
theorem Keep1.row {st g : Nat} {W W' : World} {t : TypeId} {cs : Array Value} (h : Keep1 st W W') (hr : Row W g t cs) (hg : g ≠ st) : Row W' g t cs := (h.block g hr.lt hg).trans hr
theorem below_putObj {B l : Nat} {W : World} (o : Obj) (hl : B ≤ l) (hB : B ≤ W.heap.size) : Below B W (W.putObj l o) := (Below.refl B W).grown (grownBy_putObj' W l o) hB (fun k e => by cases e; exact hl)

section
variable {F : Fence} {n : Nat} {P : Program}

/-- What such an iterator answers: it calls its round once for each of the list, in order; what it does beside that, it does in memory of its own. -/
def Tells {α : Type} (F : Fence) (n : Nat) (P : Program) (gf : Nat) (lb : Array Value) (encs : α → Array Value) (st : Nat) (S : List α) (w : World) : Prop :=
  ∀ (l : Nat) (J : List α → World → Prop) (W : World), Below w.heap.size w W → (∀ s A B, J s A → Below W.heap.size A B → J s B) →
    (∀ pre x W1, J pre W1 → YieldAt F (n - 1) P l (encs x) W1 fun e W' => e = .returned (.bool true) ∧ J (pre ++ [x]) W' ∧ Keep1 st W1 W') → J [] W →
    CallsIn F n P gf (#[.func (.yield l) #[] #[]] ++ lb) W fun e W' => (∃ v, e = .returned v) ∧ J S W'

theorem rangeFunc_tells {α : Type} {g : Operand} {ps : Array Tmp} {assign body : Code} {Q : Exit → Act → World → Prop} {a : Act} {w : World}
    (hro : F.round = none) (h1 : 1 ≤ n) {gf : Nat} {lb : Array Value} (hg : a.eval g = .func (.func gf) #[] lb) (hFg : F.fn gf) (eg : ∀ args w, (callFunc gf args).run P w = .ok (.enter gf args) w)
    {encs : α → Array Value} (hps : ∀ x, (encs x).size = ps.size) (st : Nat) (hst : st < w.heap.size) (S : List α) (hseq : Tells F (n - 1) P gf lb encs st S w)
    (I : List α → World → Prop) (hI : ∀ s A B, I s A → Below w.heap.size A B → I s B) (h0 : I [] w) (mk : α → Nat → Act) (Rx : α → Nat → World → Prop) (hRx : ∀ x b W W', Rx x b W → W'.heap[b]? = W.heap[b]? → Rx x b W')
    (hassign : ∀ (l : Nat) (x : α) (W : World) (K : Act → World → Prop), (∀ Wa, Below W.heap.size W Wa → W.heap.size < Wa.heap.size → Rx x W.heap.size Wa → K (mk x W.heap.size) Wa) →
      assign.wpIn (F.inRound l) (n - 1 - 1) P (Exit.then K (fun _ _ _ => False)) { tmps := (ps.zip (encs x)).foldl (fun t (p, v) => t.setIfInBounds p v) a.tmps, defers := [] } W)
    (hbody : ∀ (l : Nat) (pre : List α) (x : α) (b : Nat) (W : World), I pre W → Rx x b W → w.heap.size ≤ b → b < W.heap.size →
      body.wpIn (F.inRound l) (n - 1 - 1) P (fun e _ W' => e = .normal ∧ Keep1 st W W' ∧ I (pre ++ [x]) W') (mk x b) W)
    (hdone : ∀ (D : Nat) (W : World), w.heap.size ≤ D → I S W → W.heap[D]? = some (.deferred (some [])) → Q .normal { a with defers := { target := .collected D, args := #[] } :: a.defers } W) :
    (Code.rangeFunc g ps assign body).wpIn F n P Q a w := by
  refine wpIn_rangeFunc (fun fn hfn => ?_)
  rw [hro]
  obtain ⟨r0, hr0⟩ : ∃ r0 : Loop, r0 = { state := .ready, pending := none, fn, tmps := a.tmps, params := ps, assign, body, defers := w.heap.size } := ⟨_, rfl⟩
  obtain ⟨W0, hW0⟩ : ∃ W0, W0 = (w.alloc (.deferred (some []))).alloc (.loop r0) := ⟨_, rfl⟩
  have hsz : W0.heap.size = w.heap.size + 2 := by rw [hW0]; simp
  have hD0 : W0.heap[w.heap.size]? = some (.deferred (some [])) := by rw [hW0]; exact (Below.heap_alloc _ _ _ (by simp)).trans (heap_alloc_new w _)
  have hL0 : W0.heap[w.heap.size + 1]? = some (.loop r0) := by
    have := heap_alloc_new (w.alloc (.deferred (some []))) (.loop r0)
    rw [World.size_alloc] at this
    rw [hW0]; exact this
  have hbel0 : Below w.heap.size w W0 := by rw [hW0]; exact ((Below.refl _ w).alloc (Nat.le_refl _) _).alloc (by simp) _
  refine ⟨w.heap.size + 1, [{ target := .collected w.heap.size, args := #[] }], W0, { target := .fn (.func gf) lb, args := #[.func (.yield (w.heap.size + 1)) #[] #[]] }, W0, gf, #[.func (.yield (w.heap.size + 1)) #[] #[]] ++ lb, W0, ?_, ?_, ?_, ?_, fun _ => h1, ?_⟩
  · rw [hW0, hr0]; exact run_enterLoop_outer _ _ _ _ _
  · simp only [resolve, hg]
    simp [go_sem]
  · intro f' hf'
    simp [Target.leads] at hf'
    subst hf'
    exact hFg
  · simp [invoke, go_sem, eg]
  refine (hseq (w.heap.size + 1) (fun pre W => I pre W ∧ W.heap[w.heap.size]? = some (.deferred (some [])) ∧ W.heap[w.heap.size + 1]? = some (.loop r0)) W0 hbel0 ?_ ?_ ⟨hI _ _ _ h0 hbel0, hD0, hL0⟩).mono ?_
  · rintro s A B ⟨hi, hd, hl⟩ hb
    exact ⟨hI _ _ _ hi (hb.mono (by omega)), (hb.block _ (by omega)).trans hd, (hb.block _ (by omega)).trans hl⟩
  · rintro pre x W ⟨hi, hd, hl⟩
    have hlt : w.heap.size + 1 < W.heap.size := (Array.getElem?_eq_some_iff.1 hl).1
    have hy := run_yield (P := P) (args := encs x) hl (by rw [hr0]; exact hps x)
    rw [hr0] at hy
    refine ⟨fn, _, assign, body, hy, roundIn_of_wpIn hfn (hassign _ x W _ (fun Wa hba hsa hxa => ?_))⟩
    have hla := (hba.block _ hlt).trans hl
    have hda := (hba.block _ (show w.heap.size < W.heap.size by omega)).trans hd
    refine ⟨_, run_beginRound hla (by rw [hr0]), ?_⟩
    have hpb : Below w.heap.size Wa (Wa.putObj (w.heap.size + 1) (.loop { r0 with state := .busy })) := below_putObj _ (by omega) (by omega)
    refine wpIn_mono (hbody _ pre x W.heap.size _ (hI _ _ _ (hI _ _ _ hi (hba.mono (by omega))) hpb) (hRx _ _ _ _ hxa (World.putObj_heap_other (by omega))) (by omega) (by rw [World.putObj_size]; exact hsa)) ?_
    rintro e a3 W3 ⟨rfl, hk3, hi3⟩
    have hl3 : W3.heap[w.heap.size + 1]? = some (.loop { r0 with state := .busy }) := (hk3.block _ (by rw [World.putObj_size]; omega) (by omega)).trans (World.putObj_heap_same (by omega))
    have hd3 : W3.heap[w.heap.size]? = some (.deferred (some [])) := (hk3.block _ (by rw [World.putObj_size]; omega) (by omega)).trans ((World.putObj_heap_other (by omega)).trans hda)
    have he := run_endRound (P := P) none hl3
    have hr : ({ { r0 with state := .busy } with state := if (none : Option Code).isNone then .ready else .done, pending := none } : Loop) = r0 := by rw [hr0]; rfl
    rw [hr] at he
    have hs3 : Wa.heap.size ≤ W3.heap.size := by have := hk3.size; rw [World.putObj_size] at this; exact this
    have hp3 : Below w.heap.size W3 (W3.putObj (w.heap.size + 1) (.loop r0)) := below_putObj _ (by omega) (by omega)
    refine ⟨_, _, he, rfl, ⟨hI _ _ _ hi3 hp3, (World.putObj_heap_other (by omega)).trans hd3, World.putObj_heap_same (by omega)⟩, ?_⟩
    refine ⟨?_, ?_, ?_, ?_, fun k hk hks => ?_⟩
    · exact (hp3.os.trans hk3.os).trans (hpb.os.trans hba.os)
    · exact (hp3.tape.trans hk3.tape).trans (hpb.tape.trans hba.tape)
    · exact (hp3.output.trans hk3.output).trans (hpb.output.trans hba.output)
    · rw [World.putObj_size]; have := hba.size; omega
    · by_cases hkl : k = w.heap.size + 1
      · rw [hkl, World.putObj_heap_same (by omega), hl]
      · rw [World.putObj_heap_other hkl, hk3.block k (by rw [World.putObj_size]; have := hba.size; omega) hks, World.putObj_heap_other hkl, hba.block k hk]
  · rintro e W2 ⟨⟨v, rfl⟩, hi, hd, hl⟩
    have he := run_endLoop (P := P) hl (by rw [hr0]; simp)
    rw [show r0.pending = none by rw [hr0]] at he
    have hlt : w.heap.size + 1 < W2.heap.size := (Array.getElem?_eq_some_iff.1 hl).1
    exact ⟨none, _, he, hdone w.heap.size _ (Nat.le_refl _) (hI _ _ _ hi (below_putObj _ (by omega) (by omega))) ((World.putObj_heap_other (by omega)).trans hd)⟩
end
end Go.Proofs.YtaighdppemnglaaGreatDoor

/-! A region that draws its order, by what holds at every state on the way: no program in sight. -/
namespace Go.Proofs.YtaighdppemnglaaGreatDoor
open Go Go.RowKit

/-- All arrays of n bools. -/
def allB : Nat → List (List Bool)
  | 0 => [[]]
  | n + 1 => (allB n).flatMap fun l => [false :: l, true :: l]
theorem mem_allB : ∀ (l : List Bool), l ∈ allB l.length
  | [] => by simp [allB]
  | b :: l => by
    have := mem_allB l
    simp only [List.length_cons, allB, List.mem_flatMap]
    refine ⟨l, this, ?_⟩
    cases b <;> simp
/-- The i-th is done. -/
def On (l : Array Bool) (i : Nat) : Prop := l.getD i false = true
theorem On.of_set {l : Array Bool} {i j : Nat} (h : On (l.setIfInBounds i true) j) (hij : i ≠ j) : On l j := by
  unfold On at *
  rw [Array.getD_eq_getD_getElem?] at *
  rwa [Array.getElem?_setIfInBounds_ne hij] at h
theorem On.set {l : Array Bool} {i j : Nat} (h : On l j) : On (l.setIfInBounds i true) j := by
  unfold On at *
  rw [Array.getD_eq_getD_getElem?] at *
  rw [Array.getElem?_setIfInBounds]
  split
  · split
    · rfl
    · rename_i h1 h2
      rw [Array.getElem?_eq_none (by omega)] at h
      cases h
  · exact h

theorem On.self {l : Array Bool} {i : Nat} (h : i < l.size) : On (l.setIfInBounds i true) i := by
  unfold On
  rw [Array.getD_eq_getD_getElem?, Array.getElem?_setIfInBounds_self_of_lt h]
  rfl
theorem On.none (N i : Nat) : ¬ On (Array.replicate N false) i := by
  unfold On
  rw [Array.getD_eq_getD_getElem?, Array.getElem?_replicate]
  split <;> simp

section
variable {F : Fence} {n : Nat} {P : Program} {ops : Array Oper} {Q : Exit → Act → World → Prop} {md : Region.Mode}
/-- What is asked of the region's order: whatever comes up, what it waits for is done; where nothing comes up, all is done. -/
def depsB (md : Region.Mode) (ops : Array Oper) (dep : Nat → List Nat) (N : Nat) : Bool :=
  (allB N).all fun l => ((Region.ready md ops l.toArray).all fun i => decide (i < N) && !(l.toArray.getD i false) && (dep i).all fun j => l.toArray.getD j false) && (!(Region.ready md ops l.toArray).isEmpty || l.all id)

theorem count_set (l : Array Bool) (i : Nat) (hi : i < l.size) (h : l.getD i false = false) : (l.setIfInBounds i true).toList.count false + 1 = l.toList.count false := by
  obtain ⟨l⟩ := l
  simp only [List.size_toArray] at hi
  rw [Array.getD_eq_getD_getElem?] at h
  simp only [List.getElem?_toArray, List.getElem?_eq_getElem hi, Option.getD_some] at h
  simp only [List.setIfInBounds_toArray]
  induction l generalizing i with
  | nil => simp at hi
  | cons b l ih =>
    cases i with
    | zero =>
      simp at h
      subst h
      simp
    | succ i =>
      simp at h hi
      have := ih i hi h
      simp only [List.set_cons_succ, List.count_cons]
      omega

theorem anyIn_inv {Inv : Array Bool → Act → World → Prop} (dep : Nat → List Nat) (N : Nat) (hd : depsB md ops dep N = true)
    (hstep : ∀ l a w i, l.size = N → Inv l a w → i < N → ¬ On l i → (∀ j ∈ dep i, On l j) → wpOpIn F n P ops Q i (Inv (l.setIfInBounds i true)) a w)
    (hdone : ∀ l a w, Inv l a w → (∀ i, i < N → On l i) → Q .normal a w) :
    ∀ (fuel : Nat) (l : Array Bool) (a : Act) (w : World), l.size = N → l.toList.count false ≤ fuel → Inv l a w → wpAnyIn F n P md ops Q fuel l a w := by
  have key : ∀ l : Array Bool, l.size = N → (∀ i ∈ Region.ready md ops l, i < N ∧ l.getD i false = false ∧ ∀ j ∈ dep i, On l j) ∧ (Region.ready md ops l = [] → ∀ i, i < N → On l i) := by
    rintro ⟨l⟩ hl
    simp only [List.size_toArray] at hl
    have h := List.all_eq_true.1 hd l (hl ▸ mem_allB l)
    simp only [Bool.and_eq_true, Bool.or_eq_true] at h
    refine ⟨fun i hi => ?_, fun h0 i hi => ?_⟩
    · have h1 := List.all_eq_true.1 h.1 i hi
      simp only [Bool.and_eq_true, decide_eq_true_eq, Bool.not_eq_true'] at h1
      exact ⟨h1.1.1, h1.1.2, fun j hj => List.all_eq_true.1 h1.2 j hj⟩
    · rcases h.2 with h2 | h2
      · rw [h0] at h2
        simp at h2
      · have h3 := List.all_eq_true.1 h2 (l[i]'(by omega)) (List.getElem_mem _)
        unfold On
        rw [Array.getD_eq_getD_getElem?]
        simp only [List.getElem?_toArray, List.getElem?_eq_getElem (show i < l.length by omega), Option.getD_some]
        simpa using h3
  intro fuel
  induction fuel with
  | zero =>
    intro l a w hl hc hI
    have h0 : Region.ready md ops l = [] := by
      cases hr : Region.ready md ops l with
      | nil => rfl
      | cons i r =>
        exfalso
        have h1 := (key l hl).1 i (by rw [hr]; simp)
        have h2 := count_set l i (by omega) h1.2.1
        omega
    exact ⟨h0, hdone l a w hI ((key l hl).2 h0)⟩
  | succ fuel ih =>
    intro l a w hl hc hI
    refine ⟨fun h0 => hdone l a w hI ((key l hl).2 h0), fun i hi => ?_⟩
    have h1 := (key l hl).1 i hi
    have h2 := count_set l i (by omega) h1.2.1
    exact wpOpIn_mono (fun a' w' hI' => ih _ a' w' (by rw [Array.size_setIfInBounds]; exact hl) (by omega) hI') (hstep l a w i hl hI h1.1 (by unfold On; rw [h1.2.1]; simp) h1.2.2)
end
end Go.Proofs.YtaighdppemnglaaGreatDoor
