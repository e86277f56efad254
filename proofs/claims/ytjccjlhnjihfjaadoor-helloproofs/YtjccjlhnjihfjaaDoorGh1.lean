/-
  Out of ShaWord, ShaArr, ShaHeld, ShaIn, ShaLoop, HkLoop, ShaPlain, ShaSched, ShaFurther, ShaPrimes, ShaPad, ShaBlocksIt.
-/
import Derived.Laws.BitsAllLaws
import Derived.WalkKit
import Derived.WalkSpells
import Derived.WalkLawsBesides
import Derived.Deep.WholeRow
import Derived.Laws.ResultCell
import Derived.OrdersHeld
import Derived.Deep.MidRow
import Derived.RangeFuncNested
import Derived.RangeFuncBox
import Derived.RangeFuncBound
import Derived.RangeFuncCalls
import Derived.RangeFuncLeaves
import Derived.Shelf.Abstract
import Derived.Shelf.RegionOpen
import Derived.OwnWalkIn
import Derived.TacticsInMore
import Derived.LoopNIn
import Derived.LoopIn
import Derived.Maps.AppendAt
import Derived.Test.YtjccjlhnjihfjaaDoorRows
import Derived.BigRegionIn
import Derived.Laws.CopyRow
import Derived.Laws.IdiomCopy

/-! Words of 32 bits, and the numbers that memory holds of them: no program in sight. -/
namespace Go.Proofs.YtjccjlhnjihfjaaDoor
open Go

abbrev Wd := BitVec 32

/-- A word as the number that memory holds. -/
def u (x : Wd) : Int := (x.toNat : Int)
theorem u_nn (x : Wd) : 0 ≤ u x := by unfold u; omega
theorem u_le (x : Wd) : u x ≤ 4294967295 := by have := x.isLt; unfold u; omega
def xr (a b : Wd) : Wd := a ^^^ b
def an (a b : Wd) : Wd := a &&& b
def oo (a b : Wd) : Wd := a ||| b
def nt (a : Wd) : Wd := ~~~a
def ad (a b : Wd) : Wd := a + b
def sb (a b : Wd) : Wd := a - b
def sr (x : Wd) (n : Nat) : Wd := x >>> n
def sl (x : Wd) (n : Nat) : Wd := x <<< n
/-- Turned right by n bits. -/
def rr (x : Wd) (n : Nat) : Wd := oo (sr x n) (sl x (32 - n))

theorem u_nat (x : Wd) : (u x).toNat = x.toNat := by unfold u; omega
theorem bx (a b : Wd) : bits .xor .u32 (u a) (u b) = u (xr a b) := by
  rw [u32_xor _ _ (u_nn a) (by have := u_le a; omega) (u_nn b) (by have := u_le b; omega), u_nat, u_nat]
  unfold u xr
  rw [BitVec.toNat_xor]
theorem ba (a b : Wd) : bits .and .u32 (u a) (u b) = u (an a b) := by
  rw [u32_and _ _ (u_nn a) (by have := u_le a; omega) (u_nn b) (by have := u_le b; omega), u_nat, u_nat]
  unfold u an
  rw [BitVec.toNat_and]
theorem bo (a b : Wd) : bits .or .u32 (u a) (u b) = u (oo a b) := by
  rw [u32_or _ _ (u_nn a) (by have := u_le a; omega) (u_nn b) (by have := u_le b; omega), u_nat, u_nat]
  unfold u oo
  rw [BitVec.toNat_or]
theorem wadd (a b : Wd) : (u a + u b) % 4294967296 = u (ad a b) := by
  unfold u ad
  rw [BitVec.toNat_add]
  omega
theorem wsr (a : Wd) (n : Nat) : u a / 2 ^ n = u (sr a n) := by
  unfold u sr
  rw [BitVec.toNat_ushiftRight, Nat.shiftRight_eq_div_pow]
  simp
theorem wsl (a : Wd) (n : Nat) : (u a * 2 ^ n) % 4294967296 = u (sl a n) := by
  unfold u sl
  rw [BitVec.toNat_shiftLeft, Nat.shiftLeft_eq]
  simp

/-- Not, as the walk spells it. -/
theorem bnot (a : Wd) : bits .xor .u32 (if IntKind.u32.signed = true then -1 else IntKind.u32.max) (u a) = u (nt a) := by
  have e : (if IntKind.u32.signed = true then -1 else IntKind.u32.max) = u (BitVec.allOnes 32) := by decide +kernel
  rw [e, bx]
  unfold xr nt
  rw [BitVec.allOnes_xor]

/-- The low five bits of a number of bits that is turned left by its negative. -/
theorem and31 (n : Int) (h0 : 1 ≤ n) (h1 : n ≤ 31) : bits .and .u64 (IntKind.u64.wrap (-n)) 31 = 32 - n := by
  rw [IntKind.wrap_u64, u64_and _ _ (by omega) (by omega) (by omega) (by omega)]
  have e : (31 : Int).toNat = 2 ^ 5 - 1 := rfl
  rw [e, Nat.and_two_pow_sub_one_eq_mod]
  omega
theorem rr_comm (x : Wd) (n : Nat) : oo (sl x (32 - n)) (sr x n) = rr x n := by
  unfold rr oo
  rw [BitVec.or_comm]
end Go.Proofs.YtjccjlhnjihfjaaDoor

/-! Rows of words and bytes in memory: a block that holds a list, whole. -/
namespace Go.Proofs.YtjccjlhnjihfjaaDoor
open Go Go.RowKit

abbrev By := BitVec 8
/-- A byte as the number that memory holds. -/
def v8 (x : By) : Int := (x.toNat : Int)
theorem v8_nn (x : By) : 0 ≤ v8 x := by unfold v8; omega
theorem v8_le (x : By) : v8 x ≤ 255 := by have := x.isLt; unfold v8; omega
theorem v8_inj {x y : By} (h : v8 x = v8 y) : x = y := by unfold v8 at h; apply BitVec.eq_of_toNat_eq; omega

/-- The cells of words, of bytes, of numbers of 64 bits. -/
def ws (xs : List Wd) : Array Value := (xs.map fun x => Value.int .u32 (u x)).toArray
def bs (xs : List By) : Array Value := (xs.map fun x => Value.int .u8 (v8 x)).toArray
def ns (xs : List Nat) : Array Value := (xs.map fun (x : Nat) => Value.int .u64 (x : Int)).toArray
/-- The j-th. -/
def gw (xs : List Wd) (j : Nat) : Wd := xs[j]?.getD 0
def gb (xs : List By) (j : Nat) : By := xs[j]?.getD 0
def gn (xs : List Nat) (j : Nat) : Nat := xs[j]?.getD 0

theorem ws_size (xs : List Wd) : (ws xs).size = xs.length := by simp [ws]
theorem bs_size (xs : List By) : (bs xs).size = xs.length := by simp [bs]
theorem ns_size (xs : List Nat) : (ns xs).size = xs.length := by simp [ns]
theorem ws_one (xs : List Wd) : (ws xs).all (·.oneCell') = true := by simp [ws, Value.oneCell']
theorem bs_one (xs : List By) : (bs xs).all (·.oneCell') = true := by simp [bs, Value.oneCell']
theorem ns_one (xs : List Nat) : (ns xs).all (·.oneCell') = true := by simp [ns, Value.oneCell']
theorem ws_get (xs : List Wd) (j : Nat) (h : j < xs.length) : (ws xs)[j]? = some (.int .u32 (u (gw xs j))) := by simp [ws, gw, h]
theorem bs_get (xs : List By) (j : Nat) (h : j < xs.length) : (bs xs)[j]? = some (.int .u8 (v8 (gb xs j))) := by simp [bs, gb, h]
theorem ns_get (xs : List Nat) (j : Nat) (h : j < xs.length) : (ns xs)[j]? = some (.int .u64 (gn xs j : Int)) := by simp [ns, gn, h]
theorem ws_set (xs : List Wd) (j : Nat) (x : Wd) : (ws xs).setIfInBounds j (.int .u32 (u x)) = ws (xs.set j x) := by
  apply Array.ext'
  simp [ws, List.map_set]
theorem bs_set (xs : List By) (j : Nat) (x : By) : (bs xs).setIfInBounds j (.int .u8 (v8 x)) = bs (xs.set j x) := by
  apply Array.ext'
  simp [bs, List.map_set]
theorem ns_set (xs : List Nat) (j : Nat) (x : Nat) : (ns xs).setIfInBounds j (.int .u64 (x : Int)) = ns (xs.set j x) := by
  apply Array.ext'
  simp [ns, List.map_set]
/-- The block g holds the cells cs, whole, and may be written. -/
def Row (w : World) (g : Nat) (t : TypeId) (cs : Array Value) : Prop := w.heap[g]? = some (.cells cs t (0, 0))

theorem Row.lt {w : World} {g : Nat} {t : TypeId} {cs : Array Value} (h : Row w g t cs) : g < w.heap.size := (Array.getElem?_eq_some_iff.1 h).1
theorem Row.cell {w : World} {g : Nat} {t : TypeId} {cs : Array Value} (h : Row w g t cs) (j : Nat) : w.cell? ⟨g, j, none⟩ = cs[j]? := cell_of_row w g j cs t (0, 0) h
theorem Row.cellW {w : World} {g : Nat} {t : TypeId} {xs : List Wd} (h : Row w g t (ws xs)) {j : Nat} (hj : j < xs.length) : w.cell? ⟨g, j, none⟩ = some (.int .u32 (u (gw xs j))) := (h.cell j).trans (ws_get xs j hj)
theorem Row.cellB {w : World} {g : Nat} {t : TypeId} {xs : List By} (h : Row w g t (bs xs)) {j : Nat} (hj : j < xs.length) : w.cell? ⟨g, j, none⟩ = some (.int .u8 (v8 (gb xs j))) := (h.cell j).trans (bs_get xs j hj)
theorem Row.cellN {w : World} {g : Nat} {t : TypeId} {xs : List Nat} (h : Row w g t (ns xs)) {j : Nat} (hj : j < xs.length) : w.cell? ⟨g, j, none⟩ = some (.int .u64 (gn xs j : Int)) := (h.cell j).trans (ns_get xs j hj)
theorem Row.frozen {w : World} {g : Nat} {t : TypeId} {cs : Array Value} (h : Row w g t cs) (j : Nat) : w.frozen? ⟨g, j, none⟩ = false := frozen_of_row w g j cs t h
theorem Row.new (w : World) (t : TypeId) (cs : Array Value) : Row (w.alloc (.cells cs t)) w.heap.size t cs := heap_alloc_new w _
theorem Row.alloc {w : World} {g : Nat} {t : TypeId} {cs : Array Value} (h : Row w g t cs) (o : Obj) : Row (w.alloc o) g t cs := (Below.heap_alloc w o g h.lt).trans h
theorem Row.drew {w : World} {g : Nat} {t : TypeId} {cs : Array Value} (h : Row w g t cs) : Row w.drew g t cs := h
theorem Row.set {w : World} {g : Nat} {t : TypeId} {cs : Array Value} (h : Row w g t cs) (j : Nat) (v : Value) : Row (w.setCell ⟨g, j, none⟩ v) g t (cs.setIfInBounds j v) := heap_setCell_same w g j cs t v h
theorem Row.other {w : World} {g : Nat} {t : TypeId} {cs : Array Value} (h : Row w g t cs) {a : Addr} (ha : g ≠ a.block) (v : Value) : Row (w.setCell a v) g t cs := (heap_setCell_other w a g v ha).trans h
theorem Row.below {w w' : World} {n g : Nat} {t : TypeId} {cs : Array Value} (h : Row w g t cs) (hb : Below n w w') (hg : g < n) : Row w' g t cs := (hb.block g hg).trans h
theorem Row.put {w : World} {g : Nat} {t : TypeId} {cs : Array Value} (h : Row w g t cs) (cs' : Array Value) : Row (w.setRow g cs') g t cs' := setRow_heap w g cs cs' t (0, 0) h
theorem Row.putOther {w : World} {g k : Nat} {t : TypeId} {cs : Array Value} (h : Row w g t cs) (hk : g ≠ k) (cs' : Array Value) : Row (w.setRow k cs') g t cs := (setRow_other w k g cs' hk).trans h

theorem bSetRow {B : Nat} {a w : World} (h : Below B a w) {g : Nat} (hg : B ≤ g) (cs : Array Value) : Below B a (w.setRow g cs) :=
  ⟨h.os, h.tape, h.output, by rw [setRow_size]; exact h.size, fun k hk => (setRow_other w g k cs (by omega)).trans (h.block k hk)⟩

theorem bcell {W w1 : World} (hb : Below W.heap.size W w1) : (∀ b o, b < W.heap.size → w1.cell? ⟨b, o, none⟩ = W.cell? ⟨b, o, none⟩) ∧ (∀ b o, b < W.heap.size → w1.frozen? ⟨b, o, none⟩ = W.frozen? ⟨b, o, none⟩) :=
  ⟨fun b o h => hb.cell (p := ⟨b, o, none⟩) h, fun b o h => hb.frozen (p := ⟨b, o, none⟩) h⟩
/-- Where a row lies that was made one, two, three blocks ago. -/
theorem Row.new1 (w : World) (o : Obj) (t : TypeId) (cs : Array Value) : Row ((w.alloc o).alloc (.cells cs t)) (w.heap.size + 1) t cs := by
  have := Row.new (w.alloc o) t cs
  rw [World.size_alloc] at this
  exact this
theorem Row.new2 (w : World) (o o' : Obj) (t : TypeId) (cs : Array Value) : Row (((w.alloc o).alloc o').alloc (.cells cs t)) (w.heap.size + 1 + 1) t cs := by
  have := Row.new1 (w.alloc o) o' t cs
  rw [World.size_alloc] at this
  exact this
theorem Row.new3 (w : World) (o o' o2 : Obj) (t : TypeId) (cs : Array Value) : Row ((((w.alloc o).alloc o').alloc o2).alloc (.cells cs t)) (w.heap.size + 1 + 1 + 1) t cs := by
  have := Row.new2 (w.alloc o) o' o2 t cs
  rw [World.size_alloc] at this
  exact this

/-- Eight cells, stored one behind the other. -/
def put8 (w : World) (g : Nat) (v0 v1 v2 v3 v4 v5 v6 v7 : Value) : World := ((((((((w.setCell ⟨g, 0, none⟩ v0).setCell ⟨g, 1, none⟩ v1).setCell ⟨g, 2, none⟩ v2).setCell ⟨g, 3, none⟩ v3).setCell ⟨g, 4, none⟩ v4).setCell ⟨g, 5, none⟩ v5).setCell ⟨g, 6, none⟩ v6).setCell ⟨g, 7, none⟩ v7)
theorem put8_row {w : World} {g : Nat} {t : TypeId} {cs : Array Value} (h : Row w g t cs) (h8 : cs.size = 8) (v0 v1 v2 v3 v4 v5 v6 v7 : Value) : Row (put8 w g v0 v1 v2 v3 v4 v5 v6 v7) g t #[v0, v1, v2, v3, v4, v5, v6, v7] := by
  have e : (((((((cs.setIfInBounds 0 v0).setIfInBounds 1 v1).setIfInBounds 2 v2).setIfInBounds 3 v3).setIfInBounds 4 v4).setIfInBounds 5 v5).setIfInBounds 6 v6).setIfInBounds 7 v7 = #[v0, v1, v2, v3, v4, v5, v6, v7] := by
    obtain ⟨l⟩ := cs
    match l, h8 with
    | [a, b, c, d, e, f, g, i], _ => simp
  rw [← e]
  exact (((((((h.set 0 v0).set 1 v1).set 2 v2).set 3 v3).set 4 v4).set 5 v5).set 6 v6).set 7 v7
theorem put8_other {w : World} {g g' : Nat} {t : TypeId} {cs : Array Value} (h : Row w g t cs) (hg : g ≠ g') (v0 v1 v2 v3 v4 v5 v6 v7 : Value) : Row (put8 w g' v0 v1 v2 v3 v4 v5 v6 v7) g t cs :=
  (((((((h.other hg v0).other hg v1).other hg v2).other hg v3).other hg v4).other hg v5).other hg v6).other hg v7
theorem put8_below {B : Nat} {a w : World} (h : Below B a w) {g : Nat} (hg : B ≤ g) (v0 v1 v2 v3 v4 v5 v6 v7 : Value) : Below B a (put8 w g v0 v1 v2 v3 v4 v5 v6 v7) :=
  (((((((h.setCell (p := ⟨g, 0, none⟩) hg v0).setCell (p := ⟨g, 1, none⟩) hg v1).setCell (p := ⟨g, 2, none⟩) hg v2).setCell (p := ⟨g, 3, none⟩) hg v3).setCell (p := ⟨g, 4, none⟩) hg v4).setCell (p := ⟨g, 5, none⟩) hg v5).setCell (p := ⟨g, 6, none⟩) hg v6).setCell (p := ⟨g, 7, none⟩) hg v7

section
variable {P : Program}
/-- A whole array is loaded. -/
theorem load_row {ops : Array Oper} {rest : List Oper} {o : Oper} {a : Act} {w : World} {Q : Exit → Act → World → Prop} (hgd : o.guard = none) (ty : TypeId) (x : Operand) (ho : o.op = .load ty x)
    (g : Nat) (hx : a.eval x = .pointer (some ⟨g, 0, none⟩)) (t : TypeId) (cs : Array Value) (hg : Row w g t cs) (n : Nat) (e : TypeId)
    (hu : P.underlying ty = some (.array n e)) (hi : (P.info? ty).map (·.size) = some n) (hc : cs.size = n)
    (h : wpList P ops Q rest (a.put o.dst (.agg cs)) w) : wpList P ops Q (o :: rest) a w :=
  wpList_load_row hgd ty x ho g hx t cs (0, 0) _ hg hu rfl (by rw [hc]; exact hi) h

/-- An element of an array that is a value. -/
theorem run_index (t e : TypeId) (n : Nat) (d : TypeDesc) (cs : Array Value) (k : Nat) (v : Value) (hu : P.underlying t = some (.array n e)) (he : P.underlying e = some d) (hd : (match d with | .struct _ | .array _ _ => true | _ => false) = false)
    (hi : (P.info? e).map (·.size) = some 1) (hk : k < n) (hv : cs[k]? = some v) (w : World) : (Instr.index t (.agg cs) (.int .i64 (k : Int))).run P w = .ok v w := by
  have hsz : (sizeOf e).run P w = .ok 1 w := by
    cases hq : P.info? e with
    | none => simp [hq] at hi
    | some i =>
      have : i.size = 1 := by simpa [hq] using hi
      simp [sizeOf, typeInfo, hq, this]
  have hag : (isAgg e).run P w = .ok false w := by
    unfold isAgg
    rw [Sem.run_bind, run_underlying he w]
    cases d <;> simp_all
  simp [Instr.index, asIntOf, run_underlying hu, hk, hsz, part, hag, hv]

theorem wp_store_row {op : Oper} {a : Act} {w : World} {K : Act → World → Prop} {Q : Exit → Act → World → Prop} (ty : TypeId) (x y : Operand) (ho : op.op = .store ty x y)
    (g : Nat) (cs : Array Value) (hx : a.eval x = .pointer (some ⟨g, 0, none⟩)) (hy : a.eval y = .agg cs) (t : TypeId) (old : Array Value) (hg : Row w g t old)
    (hi : (P.info? ty).map (·.size) = some cs.size) (hs : old.size = cs.size) (h1 : cs.all (·.oneCell') = true)
    (h : K (a.put op.dst undef) (w.setRow g cs)) : op.wp P a w K Q := by
  unfold Oper.wp execOp
  simp only [ho, hx, hy, Instr.storeAt, Instr.sureAddr, Sem.run_bind, Sem.run_pure, Result.andThen_ok, run_storeVar_row w g t ty old cs hg hi hs h1]
  exact h

/-- A whole array is stored. -/
theorem store_row {ops : Array Oper} {rest : List Oper} {op : Oper} {a : Act} {w : World} {Q : Exit → Act → World → Prop} (hgd : op.guard = none) (ty : TypeId) (x y : Operand) (ho : op.op = .store ty x y)
    (g : Nat) (cs : Array Value) (hx : a.eval x = .pointer (some ⟨g, 0, none⟩)) (hy : a.eval y = .agg cs) (t : TypeId) (old : Array Value) (hg : Row w g t old)
    (n : Nat) (hi : (P.info? ty).map (·.size) = some n) (hs : old.size = n) (hc : cs.size = n) (h1 : cs.all (·.oneCell') = true)
    (h : wpList P ops Q rest (a.put op.dst undef) (w.setRow g cs)) : wpList P ops Q (op :: rest) a w :=
  wpList_plain hgd fun _ hK => wp_store_row ty x y ho g cs hx hy t old hg (by rw [hc]; exact hi) (by omega) h1 (hK _ _ h)

/-- A whole array is built. -/
theorem build_row {ops : Array Oper} {rest : List Oper} {o : Oper} {a : Act} {w : World} {Q : Exit → Act → World → Prop} (hgd : o.guard = none) (t : TypeId) (parts : Array (Nat × Operand)) (ho : o.op = .build t parts)
    (cs : Array Value) (hb : P.built t (parts.map fun (i, x) => (i, a.eval x)).toList = some cs) (h : wpList P ops Q rest (a.put o.dst (.agg cs)) w) : wpList P ops Q (o :: rest) a w :=
  wpList_plain hgd fun _ hK => wp_build t parts ho (by rw [hb]; rfl) (by rw [hb]; exact hK _ _ h)

/-- A whole array is stored into the block that was made last. -/
theorem store_new {ops : Array Oper} {rest : List Oper} {op : Oper} {a : Act} {w : World} {Q : Exit → Act → World → Prop} (hgd : op.guard = none) (ty : TypeId) (x y : Operand) (ho : op.op = .store ty x y)
    (g : Nat) (cs : Array Value) (hx : a.eval x = .pointer (some ⟨g, 0, none⟩)) (hy : a.eval y = .agg cs) (t : TypeId) (old : Array Value) (hg : w.heap.size = g)
    (n : Nat) (hi : (P.info? ty).map (·.size) = some n) (hs : old.size = n) (hc : cs.size = n) (h1 : cs.all (·.oneCell') = true)
    (h : wpList P ops Q rest (a.put op.dst undef) (w.alloc (.cells cs t))) : wpList P ops Q (op :: rest) a (w.alloc (.cells old t)) := by
  subst hg
  refine store_row hgd ty x y ho w.heap.size cs hx hy t old (Row.new _ _ _) n hi hs hc h1 ?_
  rw [World.setRow_alloc_new]
  exact h

/-- A whole array is handed back. -/
theorem result_row {fn : Func} {p : Tmp} {ty : TypeId} (h : fn.results = #[.cell p ty]) (tmps : Array Value) (w : World) (g : Nat) (t : TypeId) (cs : Array Value) (hg : Row w g t cs) (n : Nat) (e : TypeId)
    (hp : tmps.getD p undef = .pointer (some ⟨g, 0, none⟩)) (hu : P.underlying ty = some (.array n e)) (hi : (P.info? ty).map (·.size) = some n) (hc : cs.size = n) :
    (results fn tmps).run P w = .ok (.agg cs) w :=
  results_cell_row h tmps w g t cs (0, 0) _ hp hg hu rfl (by rw [hc]; exact hi)

/-- A whole array is handed back, with a second result. -/
theorem result_row_tmp {fn : Func} {p q : Tmp} {ty : TypeId} (h : fn.results = #[.cell p ty, .tmp q]) (tmps : Array Value) (w : World) (g : Nat) (t : TypeId) (cs : Array Value) (hg : Row w g t cs) (n : Nat) (e : TypeId) (v : Value)
    (hp : tmps.getD p undef = .pointer (some ⟨g, 0, none⟩)) (hq : tmps.getD q undef = v) (hu : P.underlying ty = some (.array n e)) (hi : (P.info? ty).map (·.size) = some n) (hc : cs.size = n) :
    (results fn tmps).run P w = .ok (.tuple #[.agg cs, v]) w := by
  rw [results_cell_tmp h, hp, hq]
  simp [asAddr, Result.andThen, run_loadVar_row w g t ty cs (0, 0) _ hg hu rfl (by rw [hc]; exact hi)]
end
theorem add_at (g o j : Nat) : (⟨g, o, none⟩ : Addr).add j = ⟨g, o + j, none⟩ := by
  unfold Addr.add
  split
  · rename_i h; rw [h]; rfl
  · rfl
/-- The cells of bytes. -/
def bl (x : List By) : List Value := x.map fun x => Value.int .u8 (v8 x)
def z32 : List By := List.replicate 32 0
end Go.Proofs.YtjccjlhnjihfjaaDoor

/-! A region that draws its order: whole arrays are loaded first, then what calls, then what stores: laws for a walk by hand. -/
namespace Go.Proofs.YtjccjlhnjihfjaaDoor
open Go Go.RowKit

section
variable {P : Program} {ops : Array Oper} {Q : Exit → Act → World → Prop} {md : Region.Mode} {S : World → Prop} {fuel : Nat} {listed : Array Bool} {a : Act} {w : World}

theorem run_load_row {o : Oper} (ty : TypeId) (x : Operand) (ho : o.op = .load ty x) (g : Nat) (hx : a.eval x = .pointer (some ⟨g, 0, none⟩)) (t : TypeId) (cs : Array Value) (n : Nat) (e : TypeId)
    (hu : P.underlying ty = some (.array n e)) (hi : (P.info? ty).map (·.size) = some n) (hc : cs.size = n) (W : World) (hg : Row W g t cs) : (execOp a.eval o).run P W = .ok (.value (.agg cs)) W := by
  unfold execOp
  simp only [ho, hx, Instr.loadAt, Instr.sureAddr, Sem.run_bind, Sem.run_pure, Result.andThen_ok, run_loadVar_row W g t ty cs (0, 0) _ hg hu rfl (by rw [hc]; exact hi)]

/-- The beginning, at whatever world in which S holds. -/
theorem held_any {id : Nat} (hm : P.follows .mixedOrders = true) (hS : S w.drew) (h : ∀ W, S W → wpAnyH P .any ops Q S ops.size (Array.replicate ops.size false) a W) : (Code.region id ops true).wp P Q a w :=
  wp_region_held hm (h w.drew hS)

/-- A whole array is loaded first. -/
theorem H_load {o : Oper} (i : Nat) (ty : TypeId) (x : Operand) (g : Nat) (t : TypeId) (cs : Array Value) (n : Nat) (e : TypeId) (hi : ops[i]? = some o) (ho : o.op = .load ty x) (hx : a.eval x = .pointer (some ⟨g, 0, none⟩))
    (hu : P.underlying ty = some (.array n e)) (hin : (P.info? ty).map (·.size) = some n) (hc : cs.size = n) (hSR : ∀ W, S W → Row W g t cs)
    (hs : Region.noSelect ops = true) (hf : Region.free md ops listed i = true) (hr : (Region.ready md ops listed).contains i = true)
    (hQ : ∀ c a v w, Q (.panic c) (a.put o.dst v) w → Q (.panic c) a w) (hw : Region.wanted o (yielded ops a.tmps) = true) (hS : S w)
    (h : wpAnyH P md ops Q S fuel (listed.setIfInBounds i true) (a.put o.dst (.agg cs)) w) : wpAnyH P md ops Q S (fuel + 1) listed a w :=
  wpAnyH_take hi hs hf hr (fun c a w => hQ c a _ w) (.inl ⟨hw, fun W hW => run_load_row ty x ho g hx t cs n e hu hin hc W (hSR W hW)⟩) hS h

end
end Go.Proofs.YtjccjlhnjihfjaaDoor

/-! Whole arrays inside a fence: laws of the walk. -/
namespace Go.Proofs.YtjccjlhnjihfjaaDoor
open Go Go.RowKit

section
variable {F : Fence} {n : Nat} {P : Program} {ops : Array Oper} {rest : List Oper} {o : Oper} {a : Act} {w : World} {Q : Exit → Act → World → Prop}

theorem about_none (h : ∀ c, o.op ≠ .call c) : o.about P w a.eval = none := by
  unfold Oper.about
  split
  · rename_i c hc; exact absurd hc (h c)
  · rfl

theorem plain_value (hgd : o.guard = none) (hc : ∀ c, o.op ≠ .call c) (hd : ∀ c, o.op ≠ .defer c) (v : Value) (he : (execOp a.eval o).run P w = .ok (.value v) w)
    (h : wpListIn F n P ops Q rest (a.put o.dst v) w) : wpListIn F n P ops Q (o :: rest) a w :=
  wpListIn_plain hgd fun _ hK => ⟨(fun f hf => by rw [about_none hc] at hf; cases hf), (by rw [Oper.semAt_eq _ _ _ hd, he]; exact hK _ _ h)⟩
theorem plain_skip (hgd : o.guard = none) (hc : ∀ c, o.op ≠ .call c) (hd : ∀ c, o.op ≠ .defer c) (w' : World) (he : (execOp a.eval o).run P w = .ok .skip w')
    (h : wpListIn F n P ops Q rest (a.put o.dst undef) w') : wpListIn F n P ops Q (o :: rest) a w :=
  wpListIn_plain hgd fun _ hK => ⟨(fun f hf => by rw [about_none hc] at hf; cases hf), (by rw [Oper.semAt_eq _ _ _ hd, he]; exact hK _ _ h)⟩

theorem load_rowIn (hgd : o.guard = none) (ty : TypeId) (x : Operand) (ho : o.op = .load ty x) (g : Nat) (hx : a.eval x = .pointer (some ⟨g, 0, none⟩)) (t : TypeId) (cs : Array Value) (hg : Row w g t cs) (m : Nat) (e : TypeId)
    (hu : P.underlying ty = some (.array m e)) (hi : (P.info? ty).map (·.size) = some m) (hc : cs.size = m) (h : wpListIn F n P ops Q rest (a.put o.dst (.agg cs)) w) : wpListIn F n P ops Q (o :: rest) a w :=
  plain_value hgd (by simp [ho]) (by simp [ho]) _ (run_load_row ty x ho g hx t cs m e hu hi hc w hg) h

/-- A whole array in the midst of a block. -/
theorem load_midIn (hgd : o.guard = none) (ty : TypeId) (x : Operand) (ho : o.op = .load ty x) (g off : Nat) (hx : a.eval x = .pointer (some ⟨g, off, none⟩)) (cs : List Value) (hg : w.rangeAt g off cs) (m : Nat) (e : TypeId)
    (hu : P.underlying ty = some (.array m e)) (hi : (P.info? ty).map (·.size) = some m) (hc : cs.length = m) (h : wpListIn F n P ops Q rest (a.put o.dst (.agg cs.toArray)) w) : wpListIn F n P ops Q (o :: rest) a w :=
  plain_value hgd (by simp [ho]) (by simp [ho]) _ (by
    unfold execOp
    simp only [ho, hx, Instr.loadAt, Instr.sureAddr, Sem.run_bind, Sem.run_pure, Result.andThen_ok, run_loadVar_mid w g off ty cs _ hg hu rfl (by rw [hc]; exact hi)]) h

theorem run_store_row (ty : TypeId) (x y : Operand) (ho : o.op = .store ty x y) (g : Nat) (cs : Array Value) (hx : a.eval x = .pointer (some ⟨g, 0, none⟩)) (hy : a.eval y = .agg cs) (t : TypeId) (old : Array Value) (hg : Row w g t old)
    (m : Nat) (hi : (P.info? ty).map (·.size) = some m) (hs : old.size = m) (hc : cs.size = m) (h1 : cs.all (·.oneCell') = true) : (execOp a.eval o).run P w = .ok .skip (w.setRow g cs) := by
  unfold execOp
  simp only [ho, hx, hy, Instr.storeAt, Instr.sureAddr, Sem.run_bind, Sem.run_pure, Result.andThen_ok, run_storeVar_row w g t ty old cs hg (by rw [hc]; exact hi) (by omega) h1]
theorem store_rowIn (hgd : o.guard = none) (ty : TypeId) (x y : Operand) (ho : o.op = .store ty x y) (g : Nat) (cs : Array Value) (hx : a.eval x = .pointer (some ⟨g, 0, none⟩)) (hy : a.eval y = .agg cs) (t : TypeId) (old : Array Value) (hg : Row w g t old)
    (m : Nat) (hi : (P.info? ty).map (·.size) = some m) (hs : old.size = m) (hc : cs.size = m) (h1 : cs.all (·.oneCell') = true) (h : wpListIn F n P ops Q rest (a.put o.dst undef) (w.setRow g cs)) : wpListIn F n P ops Q (o :: rest) a w :=
  plain_skip hgd (by simp [ho]) (by simp [ho]) _ (run_store_row ty x y ho g cs hx hy t old hg m hi hs hc h1) h
theorem store_newIn (hgd : o.guard = none) (ty : TypeId) (x y : Operand) (ho : o.op = .store ty x y) (g : Nat) (cs : Array Value) (hx : a.eval x = .pointer (some ⟨g, 0, none⟩)) (hy : a.eval y = .agg cs) (t : TypeId) (old : Array Value) (hg : w.heap.size = g)
    (m : Nat) (hi : (P.info? ty).map (·.size) = some m) (hs : old.size = m) (hc : cs.size = m) (h1 : cs.all (·.oneCell') = true) (h : wpListIn F n P ops Q rest (a.put o.dst undef) (w.alloc (.cells cs t))) : wpListIn F n P ops Q (o :: rest) a (w.alloc (.cells old t)) := by
  subst hg
  refine store_rowIn hgd ty x y ho w.heap.size cs hx hy t old (Row.new _ _ _) m hi hs hc h1 ?_
  rw [World.setRow_alloc_new]
  exact h
/-- A new array, all zero. -/
theorem alloc_rowIn (hgd : o.guard = none) (t : TypeId) (ho : o.op = .alloc t) (cs : Array Value) (hz : (P.info? t).map (·.zero) = some (some (.agg cs))) (h : wpListIn F n P ops Q rest (a.put o.dst (.pointer (some ⟨w.heap.size, 0, none⟩))) (w.alloc (.cells cs t))) : wpListIn F n P ops Q (o :: rest) a w :=
  wpListIn_plain hgd fun _ hK => ⟨(fun f hf => by rw [about_none (by simp [ho])] at hf; cases hf), (by
    rw [Oper.semAt_eq _ _ _ (by simp [ho])]
    have hzv : (zeroValue t).run P w = .ok (.agg cs) w := by
      cases hq : P.info? t with
      | none => simp [hq] at hz
      | some i =>
        have : i.zero = some (.agg cs) := by simpa [hq] using hz
        simp [zeroValue, typeInfo, hq, this]
    have he : (execOp a.eval o).run P w = .ok (.value (.pointer (some ⟨w.heap.size, 0, none⟩))) (w.alloc (.cells cs t)) := by
      unfold execOp
      simp only [ho, Instr.alloc, Sem.run_bind, hzv, Result.andThen_ok, newVar, newRow, Value.cells, run_newObj_alloc, Sem.run_pure]
    rw [he]
    exact hK _ _ h)⟩
theorem build_rowIn (hgd : o.guard = none) (t : TypeId) (parts : Array (Nat × Operand)) (ho : o.op = .build t parts) (cs : Array Value) (hb : P.built t (parts.map fun (i, x) => (i, a.eval x)).toList = some cs)
    (h : wpListIn F n P ops Q rest (a.put o.dst (.agg cs)) w) : wpListIn F n P ops Q (o :: rest) a w :=
  plain_value hgd (by simp [ho]) (by simp [ho]) _ (by
    unfold execOp
    simp only [ho, Sem.run_bind, run_build w t _ cs hb, Result.andThen_ok, Sem.run_pure]) h
end
end Go.Proofs.YtjccjlhnjihfjaaDoor

/-! A range over a function whose iterator writes into memory of its own between two rounds, and whose body writes one block alone and is never left early. -/
namespace Go.Proofs.YtjccjlhnjihfjaaDoor
open Go Go.RowKit Go.Shelf

theorem veil {p : Prop} (h : p) : Hid p := h
/-- All blocks but one lie as they lay. -/
structure Keep1 (st : Nat) (W W' : World) : Prop where
  os : W'.os = W.os
  tape : W'.tape = W.tape
  output : W'.output = W.output
  size : W.heap.size ≤ W'.heap.size
  block : ∀ k, k < W.heap.size → k ≠ st → W'.heap[k]? = W.heap[k]?

theorem Keep1.refl (st : Nat) (W : World) : Keep1 st W W := ⟨rfl, rfl, rfl, Nat.le_refl _, fun _ _ _ => rfl⟩
theorem Keep1.trans {st : Nat} {A B C : World} (h : Keep1 st A B) (k : Keep1 st B C) : Keep1 st A C :=
  ⟨k.os.trans h.os, k.tape.trans h.tape, k.output.trans h.output, Nat.le_trans h.size k.size, fun i hi hs => (k.block i (Nat.lt_of_lt_of_le hi h.size) hs).trans (h.block i hi hs)⟩
theorem Keep1.of_below {st : Nat} {W W' : World} (h : Below W.heap.size W W') : Keep1 st W W' := ⟨h.os, h.tape, h.output, h.size, fun k hk _ => h.block k hk⟩
theorem Keep1.setRow (st : Nat) (W : World) (cs : Array Value) : Keep1 st W (W.setRow st cs) := ⟨rfl, rfl, rfl, by rw [setRow_size]; exact Nat.le_refl _, fun k _ hk => setRow_other W st k cs hk⟩
theorem Keep1.below {st B : Nat} {W W' : World} (h : Keep1 st W W') (hB : B ≤ st) (hs : B ≤ W.heap.size) : Below B W W' := ⟨h.os, h.tape, h.output, h.size, fun k hk => h.block k (by omega) (by omega)⟩
theorem Keep1.row {st g : Nat} {W W' : World} {t : TypeId} {cs : Array Value} (h : Keep1 st W W') (hr : Row W g t cs) (hg : g ≠ st) : Row W' g t cs := (h.block g hr.lt hg).trans hr
theorem below_putObj {B l : Nat} {W : World} (o : Obj) (hl : B ≤ l) (hB : B ≤ W.heap.size) : Below B W (W.putObj l o) := (Below.refl B W).grown (grownBy_putObj' W l o) hB (fun k e => by cases e; exact hl)

section
variable {F : Fence} {n : Nat} {P : Program}

/-- What such an iterator answers: it calls its round once for each of the list, in order; what it does beside that, it does in memory of its own. -/
def Tells {α : Type} (F : Fence) (n : Nat) (P : Program) (gf : Nat) (lb : Array Value) (encs : α → Array Value) (st : Nat) (S : List α) (w : World) : Prop :=
  ∀ (l : Nat) (J : List α → World → Prop) (W : World), Below w.heap.size w W → (∀ s A B, J s A → Below W.heap.size A B → J s B) →
    (∀ pre x W1, J pre W1 → YieldAt F (n - 1) P l (encs x) W1 fun e W' => e = .returned (.bool true) ∧ J (pre ++ [x]) W' ∧ Keep1 st W1 W') → J [] W →
    CallsIn F n P gf (#[.func (.yield l) #[] #[]] ++ lb) W fun e W' => (∃ v, e = .returned v) ∧ J S W'

theorem rangeFunc_tells {α : Type} {g : Operand} {ps : Array Tmp} {assign body : Code} {Q : Exit → Act → World → Prop} {a : Act} {w : World}
    (hro : F.round = none) (h1 : 1 ≤ n) {gf : Nat} {lb : Array Value} (hg : a.eval g = .func (.func gf) #[] lb) (hFg : F.fn gf) (eg : ∀ args w, (callFunc gf args).run P w = .ok (.enter gf args) w)
    {encs : α → Array Value} (hps : ∀ x, (encs x).size = ps.size) (st : Nat) (hst : st < w.heap.size) (S : List α) (hseq : Tells F (n - 1) P gf lb encs st S w)
    (I : List α → World → Prop) (hI : ∀ s A B, I s A → Below w.heap.size A B → I s B) (h0 : I [] w) (mk : α → Nat → Act) (Rx : α → Nat → World → Prop) (hRx : ∀ x b W W', Rx x b W → W'.heap[b]? = W.heap[b]? → Rx x b W')
    (hassign : ∀ (l : Nat) (x : α) (W : World) (K : Act → World → Prop), (∀ Wa, Below W.heap.size W Wa → W.heap.size < Wa.heap.size → Rx x W.heap.size Wa → K (mk x W.heap.size) Wa) →
      assign.wpIn (F.inRound l) (n - 1 - 1) P (Exit.then K (fun _ _ _ => False)) { tmps := (ps.zip (encs x)).foldl (fun t (p, v) => t.setIfInBounds p v) a.tmps, defers := [] } W)
    (hbody : ∀ (l : Nat) (pre : List α) (x : α) (b : Nat) (W : World), I pre W → Rx x b W → w.heap.size ≤ b → b < W.heap.size →
      body.wpIn (F.inRound l) (n - 1 - 1) P (fun e _ W' => e = .normal ∧ Keep1 st W W' ∧ I (pre ++ [x]) W') (mk x b) W)
    (hdone : ∀ (D : Nat) (W : World), w.heap.size ≤ D → I S W → W.heap[D]? = some (.deferred (some [])) → Q .normal { a with defers := { target := .collected D, args := #[] } :: a.defers } W) :
    (Code.rangeFunc g ps assign body).wpIn F n P Q a w := by
  refine wpIn_rangeFunc (fun fn hfn => ?_)
  rw [hro]
  obtain ⟨r0, hr0⟩ : ∃ r0 : Loop, r0 = { state := .ready, pending := none, fn, tmps := a.tmps, params := ps, assign, body, defers := w.heap.size } := ⟨_, rfl⟩
  obtain ⟨W0, hW0⟩ : ∃ W0, W0 = (w.alloc (.deferred (some []))).alloc (.loop r0) := ⟨_, rfl⟩
  have hsz : W0.heap.size = w.heap.size + 2 := by rw [hW0]; simp
  have hD0 : W0.heap[w.heap.size]? = some (.deferred (some [])) := by rw [hW0]; exact (Below.heap_alloc _ _ _ (by simp)).trans (heap_alloc_new w _)
  have hL0 : W0.heap[w.heap.size + 1]? = some (.loop r0) := by
    have := heap_alloc_new (w.alloc (.deferred (some []))) (.loop r0)
    rw [World.size_alloc] at this
    rw [hW0]; exact this
  have hbel0 : Below w.heap.size w W0 := by rw [hW0]; exact ((Below.refl _ w).alloc (Nat.le_refl _) _).alloc (by simp) _
  refine ⟨w.heap.size + 1, [{ target := .collected w.heap.size, args := #[] }], W0, { target := .fn (.func gf) lb, args := #[.func (.yield (w.heap.size + 1)) #[] #[]] }, W0, gf, #[.func (.yield (w.heap.size + 1)) #[] #[]] ++ lb, W0, ?_, ?_, ?_, ?_, fun _ => h1, ?_⟩
  · rw [hW0, hr0]; exact run_enterLoop_outer _ _ _ _ _
  · simp only [resolve, hg]
    simp [go_sem]
  · intro f' hf'
    simp [Target.leads] at hf'
    subst hf'
    exact hFg
  · simp [invoke, go_sem, eg]
  refine (hseq (w.heap.size + 1) (fun pre W => I pre W ∧ W.heap[w.heap.size]? = some (.deferred (some [])) ∧ W.heap[w.heap.size + 1]? = some (.loop r0)) W0 hbel0 ?_ ?_ ⟨hI _ _ _ h0 hbel0, hD0, hL0⟩).mono ?_
  · rintro s A B ⟨hi, hd, hl⟩ hb
    exact ⟨hI _ _ _ hi (hb.mono (by omega)), (hb.block _ (by omega)).trans hd, (hb.block _ (by omega)).trans hl⟩
  · rintro pre x W ⟨hi, hd, hl⟩
    have hlt : w.heap.size + 1 < W.heap.size := (Array.getElem?_eq_some_iff.1 hl).1
    have hy := run_yield (P := P) (args := encs x) hl (by rw [hr0]; exact hps x)
    rw [hr0] at hy
    refine ⟨fn, _, assign, body, hy, roundIn_of_wpIn hfn (hassign _ x W _ (fun Wa hba hsa hxa => ?_))⟩
    have hla := (hba.block _ hlt).trans hl
    have hda := (hba.block _ (show w.heap.size < W.heap.size by omega)).trans hd
    refine ⟨_, run_beginRound hla (by rw [hr0]), ?_⟩
    have hpb : Below w.heap.size Wa (Wa.putObj (w.heap.size + 1) (.loop { r0 with state := .busy })) := below_putObj _ (by omega) (by omega)
    refine wpIn_mono (hbody _ pre x W.heap.size _ (hI _ _ _ (hI _ _ _ hi (hba.mono (by omega))) hpb) (hRx _ _ _ _ hxa (World.putObj_heap_other (by omega))) (by omega) (by rw [World.putObj_size]; exact hsa)) ?_
    rintro e a3 W3 ⟨rfl, hk3, hi3⟩
    have hl3 : W3.heap[w.heap.size + 1]? = some (.loop { r0 with state := .busy }) := (hk3.block _ (by rw [World.putObj_size]; omega) (by omega)).trans (World.putObj_heap_same (by omega))
    have hd3 : W3.heap[w.heap.size]? = some (.deferred (some [])) := (hk3.block _ (by rw [World.putObj_size]; omega) (by omega)).trans ((World.putObj_heap_other (by omega)).trans hda)
    have he := run_endRound (P := P) none hl3
    have hr : ({ { r0 with state := .busy } with state := if (none : Option Code).isNone then .ready else .done, pending := none } : Loop) = r0 := by rw [hr0]; rfl
    rw [hr] at he
    have hs3 : Wa.heap.size ≤ W3.heap.size := by have := hk3.size; rw [World.putObj_size] at this; exact this
    have hp3 : Below w.heap.size W3 (W3.putObj (w.heap.size + 1) (.loop r0)) := below_putObj _ (by omega) (by omega)
    refine ⟨_, _, he, rfl, ⟨hI _ _ _ hi3 hp3, (World.putObj_heap_other (by omega)).trans hd3, World.putObj_heap_same (by omega)⟩, ?_⟩
    refine ⟨?_, ?_, ?_, ?_, fun k hk hks => ?_⟩
    · exact (hp3.os.trans hk3.os).trans (hpb.os.trans hba.os)
    · exact (hp3.tape.trans hk3.tape).trans (hpb.tape.trans hba.tape)
    · exact (hp3.output.trans hk3.output).trans (hpb.output.trans hba.output)
    · rw [World.putObj_size]; have := hba.size; omega
    · by_cases hkl : k = w.heap.size + 1
      · rw [hkl, World.putObj_heap_same (by omega), hl]
      · rw [World.putObj_heap_other hkl, hk3.block k (by rw [World.putObj_size]; have := hba.size; omega) hks, World.putObj_heap_other hkl, hba.block k hk]
  · rintro e W2 ⟨⟨v, rfl⟩, hi, hd, hl⟩
    have he := run_endLoop (P := P) hl (by rw [hr0]; simp)
    rw [show r0.pending = none by rw [hr0]] at he
    have hlt : w.heap.size + 1 < W2.heap.size := (Array.getElem?_eq_some_iff.1 hl).1
    exact ⟨none, _, he, hdone w.heap.size _ (Nat.le_refl _) (hI _ _ _ hi (below_putObj _ (by omega) (by omega))) ((World.putObj_heap_other (by omega)).trans hd)⟩
end
theorem Keep1.cell {st g o : Nat} {W W' : World} (h : Keep1 st W W') (hg : g < W.heap.size) (hne : g ≠ st) : W'.cell? ⟨g, o, none⟩ = W.cell? ⟨g, o, none⟩ := World.cell?_of_block (w := W) (h.block g hg hne)
end Go.Proofs.YtjccjlhnjihfjaaDoor

/-! A range over a function whose iterator writes into memory of its own between two rounds, and whose body writes some blocks alone and is never left early. -/
namespace Go.Proofs.YtjccjlhnjihfjaaDoor
open Go Go.RowKit Go.Shelf

/-- All blocks but some lie as they lay. -/
structure KeepP (st : Nat → Prop) (W W' : World) : Prop where
  os : W'.os = W.os
  tape : W'.tape = W.tape
  output : W'.output = W.output
  size : W.heap.size ≤ W'.heap.size
  block : ∀ k, k < W.heap.size → ¬ st k → W'.heap[k]? = W.heap[k]?

theorem KeepP.refl (st : Nat → Prop) (W : World) : KeepP st W W := ⟨rfl, rfl, rfl, Nat.le_refl _, fun _ _ _ => rfl⟩
theorem KeepP.trans {st : Nat → Prop} {A B C : World} (h : KeepP st A B) (k : KeepP st B C) : KeepP st A C :=
  ⟨k.os.trans h.os, k.tape.trans h.tape, k.output.trans h.output, Nat.le_trans h.size k.size, fun i hi hs => (k.block i (Nat.lt_of_lt_of_le hi h.size) hs).trans (h.block i hi hs)⟩
theorem KeepP.of_below {st : Nat → Prop} {W W' : World} (h : Below W.heap.size W W') : KeepP st W W' := ⟨h.os, h.tape, h.output, h.size, fun k hk _ => h.block k hk⟩
theorem KeepP.setRow {st : Nat → Prop} {g : Nat} (hg : st g) (W : World) (cs : Array Value) : KeepP st W (W.setRow g cs) := ⟨rfl, rfl, rfl, by rw [setRow_size]; exact Nat.le_refl _, fun k _ hk => setRow_other W g k cs (fun e => hk (e ▸ hg))⟩
theorem KeepP.setCell {st : Nat → Prop} {g : Nat} (hg : st g) (W : World) (o : Nat) (v : Value) : KeepP st W (W.setCell ⟨g, o, none⟩ v) := ⟨rfl, rfl, rfl, by simp [World.setCell], fun k _ hk => Below.heap_setCell W _ v k (fun e => hk (e ▸ hg))⟩
theorem KeepP.grown {st : Nat → Prop} {g : Nat} (hg : st g) {W W' : World} (h : W.grownBy W' (some g)) : KeepP st W W' := ⟨h.os, h.tape, h.output, h.size, fun k hk hs => h.block k hk (fun e => by injection e with e; exact hs (e ▸ hg))⟩
theorem KeepP.below {st : Nat → Prop} {B : Nat} {W W' : World} (h : KeepP st W W') (hB : ∀ k, st k → B ≤ k) (hs : B ≤ W.heap.size) : Below B W W' := ⟨h.os, h.tape, h.output, h.size, fun k hk => h.block k (by omega) (fun e => by have := hB k e; omega)⟩
theorem KeepP.row {st : Nat → Prop} {g : Nat} {W W' : World} {t : TypeId} {cs : Array Value} (h : KeepP st W W') (hr : Row W g t cs) (hg : ¬ st g) : Row W' g t cs := (h.block g hr.lt hg).trans hr

section
variable {F : Fence} {n : Nat} {P : Program}

/-- What such an iterator answers: it calls its round once for each of the list, in order; what it does beside that, it does in memory of its own. -/
def TellsP {α : Type} (F : Fence) (n : Nat) (P : Program) (gf : Nat) (lb : Array Value) (encs : α → Array Value) (st : Nat → Prop) (S : List α) (w : World) : Prop :=
  ∀ (l : Nat) (J : List α → World → Prop) (W : World), Below w.heap.size w W → (∀ s A B, J s A → Below W.heap.size A B → J s B) →
    (∀ pre x W1, J pre W1 → YieldAt F (n - 1) P l (encs x) W1 fun e W' => e = .returned (.bool true) ∧ J (pre ++ [x]) W' ∧ KeepP st W1 W') → J [] W →
    CallsIn F n P gf (#[.func (.yield l) #[] #[]] ++ lb) W fun e W' => (∃ v, e = .returned v) ∧ J S W'

theorem rangeFunc_tellsP {α : Type} {g : Operand} {ps : Array Tmp} {assign body : Code} {Q : Exit → Act → World → Prop} {a : Act} {w : World}
    (hro : F.round = none) (h1 : 1 ≤ n) {gf : Nat} {lb : Array Value} (hg : a.eval g = .func (.func gf) #[] lb) (hFg : F.fn gf) (eg : ∀ args w, (callFunc gf args).run P w = .ok (.enter gf args) w)
    {encs : α → Array Value} (hps : ∀ x, (encs x).size = ps.size) (st : Nat → Prop) (hst : ∀ k, st k → k < w.heap.size) (S : List α) (hseq : TellsP F (n - 1) P gf lb encs st S w)
    (I : List α → World → Prop) (hI : ∀ s A B, I s A → Below w.heap.size A B → I s B) (h0 : I [] w) (mk : α → Nat → Act) (Rx : α → Nat → World → Prop) (hRx : ∀ x b W W', Rx x b W → W'.heap[b]? = W.heap[b]? → Rx x b W')
    (hassign : ∀ (l : Nat) (x : α) (W : World) (K : Act → World → Prop), (∀ Wa, Below W.heap.size W Wa → W.heap.size < Wa.heap.size → Rx x W.heap.size Wa → K (mk x W.heap.size) Wa) →
      assign.wpIn (F.inRound l) (n - 1 - 1) P (Exit.then K (fun _ _ _ => False)) { tmps := (ps.zip (encs x)).foldl (fun t (p, v) => t.setIfInBounds p v) a.tmps, defers := [] } W)
    (hbody : ∀ (l : Nat) (pre : List α) (x : α) (b : Nat) (W : World), I pre W → Rx x b W → w.heap.size ≤ b → b < W.heap.size →
      body.wpIn (F.inRound l) (n - 1 - 1) P (fun e _ W' => e = .normal ∧ KeepP st W W' ∧ I (pre ++ [x]) W') (mk x b) W)
    (hdone : ∀ (D : Nat) (W : World), w.heap.size ≤ D → I S W → W.heap[D]? = some (.deferred (some [])) → Q .normal { a with defers := { target := .collected D, args := #[] } :: a.defers } W) :
    (Code.rangeFunc g ps assign body).wpIn F n P Q a w := by
  refine wpIn_rangeFunc (fun fn hfn => ?_)
  rw [hro]
  obtain ⟨r0, hr0⟩ : ∃ r0 : Loop, r0 = { state := .ready, pending := none, fn, tmps := a.tmps, params := ps, assign, body, defers := w.heap.size } := ⟨_, rfl⟩
  obtain ⟨W0, hW0⟩ : ∃ W0, W0 = (w.alloc (.deferred (some []))).alloc (.loop r0) := ⟨_, rfl⟩
  have hsz : W0.heap.size = w.heap.size + 2 := by rw [hW0]; simp
  have hD0 : W0.heap[w.heap.size]? = some (.deferred (some [])) := by rw [hW0]; exact (Below.heap_alloc _ _ _ (by simp)).trans (heap_alloc_new w _)
  have hL0 : W0.heap[w.heap.size + 1]? = some (.loop r0) := by
    have := heap_alloc_new (w.alloc (.deferred (some []))) (.loop r0)
    rw [World.size_alloc] at this
    rw [hW0]; exact this
  have hbel0 : Below w.heap.size w W0 := by rw [hW0]; exact ((Below.refl _ w).alloc (Nat.le_refl _) _).alloc (by simp) _
  refine ⟨w.heap.size + 1, [{ target := .collected w.heap.size, args := #[] }], W0, { target := .fn (.func gf) lb, args := #[.func (.yield (w.heap.size + 1)) #[] #[]] }, W0, gf, #[.func (.yield (w.heap.size + 1)) #[] #[]] ++ lb, W0, ?_, ?_, ?_, ?_, fun _ => h1, ?_⟩
  · rw [hW0, hr0]; exact run_enterLoop_outer _ _ _ _ _
  · simp only [resolve, hg]
    simp [go_sem]
  · intro f' hf'
    simp [Target.leads] at hf'
    subst hf'
    exact hFg
  · simp [invoke, go_sem, eg]
  refine (hseq (w.heap.size + 1) (fun pre W => I pre W ∧ W.heap[w.heap.size]? = some (.deferred (some [])) ∧ W.heap[w.heap.size + 1]? = some (.loop r0)) W0 hbel0 ?_ ?_ ⟨hI _ _ _ h0 hbel0, hD0, hL0⟩).mono ?_
  · rintro s A B ⟨hi, hd, hl⟩ hb
    exact ⟨hI _ _ _ hi (hb.mono (by omega)), (hb.block _ (by omega)).trans hd, (hb.block _ (by omega)).trans hl⟩
  · rintro pre x W ⟨hi, hd, hl⟩
    have hlt : w.heap.size + 1 < W.heap.size := (Array.getElem?_eq_some_iff.1 hl).1
    have hy := run_yield (P := P) (args := encs x) hl (by rw [hr0]; exact hps x)
    rw [hr0] at hy
    refine ⟨fn, _, assign, body, hy, roundIn_of_wpIn hfn (hassign _ x W _ (fun Wa hba hsa hxa => ?_))⟩
    have hla := (hba.block _ hlt).trans hl
    have hda := (hba.block _ (show w.heap.size < W.heap.size by omega)).trans hd
    refine ⟨_, run_beginRound hla (by rw [hr0]), ?_⟩
    have hpb : Below w.heap.size Wa (Wa.putObj (w.heap.size + 1) (.loop { r0 with state := .busy })) := below_putObj _ (by omega) (by omega)
    refine wpIn_mono (hbody _ pre x W.heap.size _ (hI _ _ _ (hI _ _ _ hi (hba.mono (by omega))) hpb) (hRx _ _ _ _ hxa (World.putObj_heap_other (by omega))) (by omega) (by rw [World.putObj_size]; exact hsa)) ?_
    rintro e a3 W3 ⟨rfl, hk3, hi3⟩
    have hl3 : W3.heap[w.heap.size + 1]? = some (.loop { r0 with state := .busy }) := (hk3.block _ (by rw [World.putObj_size]; omega) (fun e => by have := hst _ e; omega)).trans (World.putObj_heap_same (by omega))
    have hd3 : W3.heap[w.heap.size]? = some (.deferred (some [])) := (hk3.block _ (by rw [World.putObj_size]; omega) (fun e => by have := hst _ e; omega)).trans ((World.putObj_heap_other (by omega)).trans hda)
    have he := run_endRound (P := P) none hl3
    have hr : ({ { r0 with state := .busy } with state := if (none : Option Code).isNone then .ready else .done, pending := none } : Loop) = r0 := by rw [hr0]; rfl
    rw [hr] at he
    have hs3 : Wa.heap.size ≤ W3.heap.size := by have := hk3.size; rw [World.putObj_size] at this; exact this
    have hp3 : Below w.heap.size W3 (W3.putObj (w.heap.size + 1) (.loop r0)) := below_putObj _ (by omega) (by omega)
    refine ⟨_, _, he, rfl, ⟨hI _ _ _ hi3 hp3, (World.putObj_heap_other (by omega)).trans hd3, World.putObj_heap_same (by omega)⟩, ?_⟩
    refine ⟨?_, ?_, ?_, ?_, fun k hk hks => ?_⟩
    · exact (hp3.os.trans hk3.os).trans (hpb.os.trans hba.os)
    · exact (hp3.tape.trans hk3.tape).trans (hpb.tape.trans hba.tape)
    · exact (hp3.output.trans hk3.output).trans (hpb.output.trans hba.output)
    · rw [World.putObj_size]; have := hba.size; omega
    · by_cases hkl : k = w.heap.size + 1
      · rw [hkl, World.putObj_heap_same (by omega), hl]
      · rw [World.putObj_heap_other hkl, hk3.block k (by rw [World.putObj_size]; have := hba.size; omega) hks, World.putObj_heap_other hkl, hba.block k hk]
  · rintro e W2 ⟨⟨v, rfl⟩, hi, hd, hl⟩
    have he := run_endLoop (P := P) hl (by rw [hr0]; simp)
    rw [show r0.pending = none by rw [hr0]] at he
    have hlt : w.heap.size + 1 < W2.heap.size := (Array.getElem?_eq_some_iff.1 hl).1
    exact ⟨none, _, he, hdone w.heap.size _ (Nat.le_refl _) (hI _ _ _ hi (below_putObj _ (by omega) (by omega))) ((World.putObj_heap_other (by omega)).trans hd)⟩
end
end Go.Proofs.YtjccjlhnjihfjaaDoor

/-! SHA-256 on lists of words and bytes: no program in sight. -/
namespace Go.Proofs.YtjccjlhnjihfjaaDoor
open Go

/-- The bytes of a word, the highest first. -/
def byteOf (x : Wd) (j : Nat) : By := (sr x (24 - 8 * j)).setWidth 8
theorem v8_byteOf (x : Wd) (j : Nat) : u (sr x (24 - 8 * j)) % 256 = v8 (byteOf x j) := by
  unfold u v8 byteOf
  rw [BitVec.toNat_setWidth]
  omega
/-- The bytes of words. -/
def sumB (s : List Wd) : List By := (List.range 32).map fun i => byteOf (gw s (i / 4)) (i % 4)
theorem sumB_length (s : List Wd) : (sumB s).length = 32 := by simp [sumB]
theorem sumB_get (s : List Wd) (i : Nat) (h : i < 32) : (sumB s)[i]? = some (byteOf (gw s (i / 4)) (i % 4)) := by simp [sumB, h]

/-- One by one: what has come, and nothing yet behind it. -/
theorem fill_set {α : Type} (l : List α) (z : α) (k n : Nat) (hl : l.length = n) (hk : k < n) (x : α) (hx : l[k]? = some x) :
    (l.take k ++ List.replicate (n - k) z).set k x = l.take (k + 1) ++ List.replicate (n - (k + 1)) z := by
  have hx' : l[k]'(by omega) = x := by
    rw [List.getElem?_eq_getElem (by omega)] at hx
    exact Option.some.inj hx
  rw [List.set_append_right k x (by simp; omega), List.take_succ_eq_append_getElem (by omega), hx']
  have e : n - k = (n - (k + 1)) + 1 := by omega
  simp only [List.length_take, show min k l.length = k by omega, Nat.sub_self, e, List.replicate_succ, List.set_cons_zero, List.append_assoc, List.singleton_append]

/-- The bits of f where e's are set, else those of g; those that at least two of a, b, c have. -/
def ch (e f g : Wd) : Wd := xr (an e f) (an (nt e) g)
def maj (a b c : Wd) : Wd := xr (xr (an a b) (an a c)) (an b c)
theorem ch_or (e f g : Wd) : oo (an e f) (an (nt e) g) = ch e f g := by
  unfold ch oo an nt xr
  apply BitVec.eq_of_getElem_eq
  intro i hi
  simp only [BitVec.getElem_or, BitVec.getElem_and, BitVec.getElem_not, BitVec.getElem_xor]
  cases e[i] <;> cases f[i] <;> cases g[i] <;> rfl
theorem maj_or (a b c : Wd) : oo (oo (an a b) (an a c)) (an b c) = maj a b c := by
  unfold maj oo an xr
  apply BitVec.eq_of_getElem_eq
  intro i hi
  simp only [BitVec.getElem_or, BitVec.getElem_and, BitVec.getElem_xor]
  cases a[i] <;> cases b[i] <;> cases c[i] <;> rfl
/-- Three taken against one another. -/
def S1 (e : Wd) : Wd := xr (xr (rr e 6) (rr e 11)) (rr e 25)
def S0 (a : Wd) : Wd := xr (xr (rr a 2) (rr a 13)) (rr a 22)
def s1 (x : Wd) : Wd := xr (xr (rr x 17) (rr x 19)) (sr x 10)
def s0 (y : Wd) : Wd := xr (xr (rr y 7) (rr y 18)) (sr y 3)
def T1 (e f g h kw : Wd) : Wd := ad (ad (ad h (S1 e)) (ch e f g)) kw
def T2 (a b c : Wd) : Wd := ad (S0 a) (maj a b c)
/-- One of the 64 turns. -/
def turnL (s : List Wd) (kw : Wd) : List Wd :=
  [ad (T1 (gw s 4) (gw s 5) (gw s 6) (gw s 7) kw) (T2 (gw s 0) (gw s 1) (gw s 2)), gw s 0, gw s 1, gw s 2, ad (gw s 3) (T1 (gw s 4) (gw s 5) (gw s 6) (gw s 7) kw), gw s 4, gw s 5, gw s 6]
theorem eight {α : Type} {s : List α} (h : s.length = 8) : ∃ a b c d e f g i, s = [a, b, c, d, e, f, g, i] := by
  match s, h with
  | [a, b, c, d, e, f, g, i], _ => exact ⟨a, b, c, d, e, f, g, i, rfl⟩
end Go.Proofs.YtjccjlhnjihfjaaDoor

/-! The words of a block, on lists: no program in sight. -/
namespace Go.Proofs.YtjccjlhnjihfjaaDoor
open Go

/-- A byte as a word. -/
def ex (b : By) : Wd := b.setWidth 32
theorem v8_ex (b : By) : v8 b = u (ex b) := by
  have := b.isLt
  unfold v8 u ex
  rw [BitVec.toNat_setWidth]
  omega

/-- The word that bytes make, the highest first. -/
def wordUp (l : List By) : Wd := l.foldl (fun w c => oo (sl w 8) (ex c)) 0
theorem wordUp_snoc (l : List By) (c : By) : wordUp (l ++ [c]) = oo (sl (wordUp l) 8) (ex c) := by simp [wordUp]

/-- The words when i bytes have come. -/
def parts (b : List By) (i : Nat) : List Wd := (List.range 64).map fun q => wordUp ((b.drop (4 * q)).take (min 4 (i - 4 * q)))
theorem parts_length (b : List By) (i : Nat) : (parts b i).length = 64 := by simp [parts]
theorem parts_get (b : List By) (i q : Nat) (h : q < 64) : gw (parts b i) q = wordUp ((b.drop (4 * q)).take (min 4 (i - 4 * q))) := by simp [gw, parts, h]
theorem parts_zero (b : List By) : parts b 0 = List.replicate 64 0 := by
  apply List.ext_getElem
  · simp [parts]
  · intro j h1 h2
    rw [List.getElem_replicate]
    simp only [parts, List.getElem_map, Nat.zero_sub, Nat.min_zero, List.take_zero]
    rfl
theorem parts_step (b : List By) (i : Nat) (hb : b.length = 64) (hi : i < 64) : (parts b i).set (i / 4) (oo (sl (gw (parts b i) (i / 4)) 8) (ex (gb b i))) = parts b (i + 1) := by
  rw [parts_get b i (i / 4) (by omega)]
  apply List.ext_getElem
  · simp [parts]
  · intro j h1 h2
    rw [List.getElem_set]
    split
    · rename_i h
      subst h
      simp only [parts, List.getElem_map, List.getElem_range]
      have e1 : min 4 (i - 4 * (i / 4)) = i - 4 * (i / 4) := by omega
      have e2 : min 4 (i + 1 - 4 * (i / 4)) = i - 4 * (i / 4) + 1 := by omega
      rw [e1, e2, List.take_succ_eq_append_getElem (by simp; omega), wordUp_snoc]
      congr 2
      simp only [List.getElem_drop, gb]
      have aux : ∀ (k : Nat) (hk : k < b.length), k = i → b[i]?.getD 0 = b[k] := fun k hk e => by subst e; simp [hk]
      exact aux _ _ (by omega)
    · rename_i h
      simp only [parts, List.getElem_map, List.getElem_range]
      rw [show min 4 (i + 1 - 4 * j) = min 4 (i - 4 * j) by omega]

def first16 (b : List By) : List Wd := (List.range 16).map fun q => wordUp ((b.drop (4 * q)).take 4)
theorem first16_length (b : List By) : (first16 b).length = 16 := by simp [first16]
theorem parts_all (b : List By) : parts b 64 = first16 b ++ List.replicate 48 0 := by
  apply List.ext_getElem
  · simp [parts, first16]
  · intro j h1 h2
    have hj : j < 64 := by simpa [parts] using h1
    simp only [parts, List.getElem_map, List.getElem_range, List.getElem_append, first16_length]
    split
    · rename_i h
      simp only [first16, List.getElem_map, List.getElem_range]
      rw [show min 4 (64 - 4 * j) = 4 by omega]
    · rename_i h
      rw [show min 4 (64 - 4 * j) = 0 by omega, List.getElem_replicate, List.take_zero]
      rfl

/-- The word behind words. -/
def nextW (l : List Wd) : Wd := ad (ad (ad (s1 (gw l (l.length - 2))) (gw l (l.length - 7))) (s0 (gw l (l.length - 15)))) (gw l (l.length - 16))
def schedN (b : List By) : Nat → List Wd
  | 0 => first16 b
  | n + 1 => schedN b n ++ [nextW (schedN b n)]
theorem schedN_length (b : List By) : ∀ n, (schedN b n).length = 16 + n
  | 0 => first16_length b
  | n + 1 => by rw [schedN, List.length_append, schedN_length b n]; rfl
def sched (b : List By) : List Wd := schedN b 48
theorem sched_length (b : List By) : (sched b).length = 64 := schedN_length b 48
/-- The row while its words are reckoned. -/
def schedR (b : List By) (n : Nat) : List Wd := schedN b n ++ List.replicate (48 - n) 0
theorem schedR_length (b : List By) (n : Nat) (h : n ≤ 48) : (schedR b n).length = 64 := by simp [schedR, schedN_length]; omega
theorem schedR_get (b : List By) (n j : Nat) (h : j < 16 + n) : gw (schedR b n) j = gw (schedN b n) j := by
  unfold gw schedR
  rw [List.getElem?_append_left (by rw [schedN_length]; exact h)]
theorem schedR_step (b : List By) (n : Nat) (h : n < 48) : (schedR b n).set (16 + n) (ad (ad (ad (s1 (gw (schedR b n) (16 + n - 2))) (gw (schedR b n) (16 + n - 7))) (s0 (gw (schedR b n) (16 + n - 15)))) (gw (schedR b n) (16 + n - 16))) = schedR b (n + 1) := by
  rw [schedR_get b n _ (by omega), schedR_get b n _ (by omega), schedR_get b n _ (by omega), schedR_get b n _ (by omega)]
  have e : nextW (schedN b n) = ad (ad (ad (s1 (gw (schedN b n) (16 + n - 2))) (gw (schedN b n) (16 + n - 7))) (s0 (gw (schedN b n) (16 + n - 15)))) (gw (schedN b n) (16 + n - 16)) := by
    unfold nextW; rw [schedN_length]
  rw [← e]
  unfold schedR
  rw [List.set_append_right _ _ (by rw [schedN_length]; omega), schedN_length, show 48 - n = (48 - (n + 1)) + 1 by omega, List.replicate_succ, Nat.sub_self, List.set_cons_zero, schedN, List.append_assoc]
  rfl
theorem schedR_all (b : List By) : schedR b 48 = sched b := by simp [schedR, sched]
theorem schedR_zero (b : List By) : schedR b 0 = parts b 64 := by rw [parts_all]; rfl
end Go.Proofs.YtjccjlhnjihfjaaDoor

/-! A state, a block further, on lists: no program in sight. -/
namespace Go.Proofs.YtjccjlhnjihfjaaDoor
open Go

/-- The words a to h behind t turns. -/
def roundsTo (s k w : List Wd) : Nat → List Wd
  | 0 => s
  | t + 1 => turnL (roundsTo s k w t) (ad (gw k t) (gw w t))
theorem roundsTo_length (s k w : List Wd) (hs : s.length = 8) : ∀ t, (roundsTo s k w t).length = 8
  | 0 => hs
  | _ + 1 => rfl
/-- Each with what the other has, added. -/
def sumS (s n : List Wd) : List Wd := (List.range 8).map fun i => ad (gw s i) (gw n i)
theorem sumS_length (s n : List Wd) : (sumS s n).length = 8 := by simp [sumS]
theorem sumS_get (s n : List Wd) (i : Nat) (h : i < 8) : (sumS s n)[i]? = some (ad (gw s i) (gw n i)) := by simp [sumS, h]
theorem ad_comm (a b : Wd) : ad a b = ad b a := by unfold ad; exact BitVec.add_comm a b
theorem ad_assoc (a b c : Wd) : ad (ad a b) c = ad a (ad b c) := by unfold ad; exact BitVec.add_assoc a b c
/-- A state, a block further, by the words K. -/
def furtherL (s k : List Wd) (b : List By) : List Wd := sumS s (roundsTo s k (sched b) 64)
theorem furtherL_length (s k : List Wd) (b : List By) : (furtherL s k b).length = 8 := sumS_length _ _

/-- One by one: what has come, and behind it what was. -/
def mix {α : Type} (l r : List α) (i : Nat) : List α := l.take i ++ r.drop i
theorem mix_length {α : Type} (l r : List α) (i n : Nat) (hl : l.length = n) (hr : r.length = n) (hi : i ≤ n) : (mix l r i).length = n := by simp [mix, hl, hr]; omega
theorem mix_zero {α : Type} (l r : List α) : mix l r 0 = r := by simp [mix]
theorem mix_all {α : Type} (l r : List α) (n : Nat) (hl : l.length = n) (hr : r.length = n) : mix l r n = l := by
  unfold mix
  rw [List.take_of_length_le (by omega), List.drop_of_length_le (by omega), List.append_nil]
theorem mix_get {α : Type} (l r : List α) (i n : Nat) (hl : l.length = n) (hi : i < n) : (mix l r i)[i]? = r[i]? := by
  unfold mix
  rw [List.getElem?_append_right (by simp; omega), List.length_take, show min i l.length = i by omega, Nat.sub_self, List.getElem?_drop, Nat.add_zero]
theorem mix_set {α : Type} (l r : List α) (i n : Nat) (hl : l.length = n) (hr : r.length = n) (hi : i < n) (x : α) (hx : l[i]? = some x) : (mix l r i).set i x = mix l r (i + 1) := by
  have hx' : l[i]'(by omega) = x := by
    rw [List.getElem?_eq_getElem (by omega)] at hx
    exact Option.some.inj hx
  unfold mix
  rw [List.set_append_right i x (by simp; omega), List.take_succ_eq_append_getElem (by omega), hx', List.length_take, show min i l.length = i by omega, Nat.sub_self, List.drop_eq_getElem_cons (show i < r.length by omega), List.set_cons_zero, List.append_assoc]
  rfl
theorem gw_mix (l r : List Wd) (i n : Nat) (hl : l.length = n) (hi : i < n) : gw (mix l r i) i = gw r i := by unfold gw; rw [mix_get l r i n hl hi]
end Go.Proofs.YtjccjlhnjihfjaaDoor

/-! The first 64 primes, their roots, and how they are found: no program in sight. -/
namespace Go.Proofs.YtjccjlhnjihfjaaDoor
open Go

def P64 : List Nat := [2, 3, 5, 7, 11, 13, 17, 19, 23, 29, 31, 37, 41, 43, 47, 53, 59, 61, 67, 71, 73, 79, 83, 89, 97, 101, 103, 107, 109, 113, 127, 131, 137, 139, 149, 151, 157, 163, 167, 173, 179, 181, 191, 193, 197, 199, 211, 223, 227, 229, 233, 239, 241, 251, 257, 263, 269, 271, 277, 281, 283, 293, 307, 311]
def cubeRoots : List Nat := [5411319704, 6194414737, 7344290767, 8215976869, 9551921755, 10098905585, 11043570340, 11460697813, 12214315672, 13195500289, 13492127166, 14311783875, 14809980276, 15046980094, 15499789991, 16133124468, 16720292289, 16907126662, 17444216262, 17784676812, 17950125167, 18429019306, 18734950876, 19175934170, 19734090066, 20001703533, 20132865992, 20390182855, 20516441075, 20764397895, 21588763473, 21813078375, 22141143685, 22248366392, 22769593852, 22871018771, 23170020180, 23461497531, 23651862830, 23931792517, 24205322401, 24295138891, 24734567280, 24820601251, 24990902297, 25075189284, 25569408389, 26045227120, 26200031510, 26276752392, 26428864332, 26653801653, 26727943347, 27092625994, 27306805839, 27517677555, 27725365998, 27793908591, 27997534228, 28131656200, 28198240250, 28526537963, 28973835255, 29099129074]
def squareRoots : List Nat := [6074000999, 7439101573, 9603838834, 11363415354, 14244795007, 15485724812, 17708603819, 18721328409]
/-- The words K and H. -/
def KW : List Wd := [1116352408, 1899447441, 3049323471, 3921009573, 961987163, 1508970993, 2453635748, 2870763221, 3624381080, 310598401, 607225278, 1426881987, 1925078388, 2162078206, 2614888103, 3248222580, 3835390401, 4022224774, 264347078, 604807628, 770255983, 1249150122, 1555081692, 1996064986, 2554220882, 2821834349, 2952996808, 3210313671, 3336571891, 3584528711, 113926993, 338241895, 666307205, 773529912, 1294757372, 1396182291, 1695183700, 1986661051, 2177026350, 2456956037, 2730485921, 2820302411, 3259730800, 3345764771, 3516065817, 3600352804, 4094571909, 275423344, 430227734, 506948616, 659060556, 883997877, 958139571, 1322822218, 1537002063, 1747873779, 1955562222, 2024104815, 2227730452, 2361852424, 2428436474, 2756734187, 3204031479, 3329325298]
def HW : List Wd := [1779033703, 3144134277, 1013904242, 2773480762, 1359893119, 2600822924, 528734635, 1541459225]
theorem P64_length : P64.length = 64 := by decide +kernel
theorem KW_length : KW.length = 64 := by decide +kernel
theorem HW_length : HW.length = 8 := by decide +kernel

/-- How many primes lie below n. -/
def cntB (n : Nat) : Nat := (P64.filter fun p => decide (p < n)).length
/-- Does one of them divide n? -/
def comp (n : Nat) : Bool := (List.range (cntB n)).any fun j => n % gn P64 j == 0
theorem cntB_all : ∀ n, n < 313 → 2 ≤ n → cntB n ≤ 64 ∧ (n = 312 ↔ cntB n = 64) := by decide +kernel
theorem comp_all : ∀ n, n < 312 → 2 ≤ n → (comp n = true → cntB (n + 1) = cntB n) ∧ (comp n = false → cntB (n + 1) = cntB n + 1 ∧ P64[cntB n]? = some n) := by decide +kernel
theorem P64_bd : ∀ j, j < 64 → 2 ≤ gn P64 j ∧ gn P64 j ≤ 311 := by decide +kernel
theorem P64_bd8 : ∀ j, j < 8 → 2 ≤ gn P64 j ∧ gn P64 j ≤ 19 := by decide +kernel
theorem comp_yes (n j : Nat) (hj : j < cntB n) (h : n % gn P64 j = 0) : comp n = true := by
  unfold comp
  rw [List.any_eq_true]
  exact ⟨j, List.mem_range.2 hj, by simp [h]⟩
theorem comp_no (n : Nat) (h : ∀ j, j < cntB n → n % gn P64 j ≠ 0) : comp n = false := by
  unfold comp
  rw [List.any_eq_false]
  intro j hj
  simp [h j (List.mem_range.1 hj)]

/-- The row while primes are looked for. -/
def foundR (c : Nat) : List Nat := P64.take c ++ List.replicate (64 - c) 0
theorem foundR_length (c : Nat) (h : c ≤ 64) : (foundR c).length = 64 := by simp [foundR, P64_length]; omega
theorem foundR_get (c j : Nat) (hc : c ≤ 64) (h : j < c) : gn (foundR c) j = gn P64 j := by
  unfold gn foundR
  rw [List.getElem?_append_left (by rw [List.length_take, P64_length]; omega), List.getElem?_take, if_pos h]
theorem foundR_set (c n : Nat) (hc : c < 64) (h : P64[c]? = some n) : (foundR c).set c n = foundR (c + 1) := fill_set P64 0 c 64 P64_length hc n h
theorem foundR_all : foundR 64 = P64 := by
  unfold foundR
  rw [List.take_of_length_le (by rw [P64_length]; exact Nat.le_refl _)]
  simp

theorem cubeRoots_ok : ∀ j, j < 64 → gn P64 j * 79228162514264337593543950336 < (gn cubeRoots j + 1) * (gn cubeRoots j + 1) * (gn cubeRoots j + 1) ∧ gn cubeRoots j * gn cubeRoots j * gn cubeRoots j ≤ gn P64 j * 79228162514264337593543950336 ∧ gw KW j = BitVec.ofNat 32 (gn cubeRoots j) := by decide +kernel
theorem squareRoots_ok : ∀ j, j < 8 → gn P64 j * 18446744073709551616 < (gn squareRoots j + 1) * (gn squareRoots j + 1) ∧ gn squareRoots j * gn squareRoots j ≤ gn P64 j * 18446744073709551616 ∧ gw HW j = BitVec.ofNat 32 (gn squareRoots j) := by decide +kernel

theorem mono3 {a b : Nat} (h : a ≤ b) : a * a * a ≤ b * b * b := Nat.mul_le_mul (Nat.mul_le_mul h h) h
theorem cube_root_one (j r : Nat) (hj : j < 64) (h1 : r * r * r ≤ gn P64 j * 79228162514264337593543950336) (h2 : gn P64 j * 79228162514264337593543950336 < (r + 1) * (r + 1) * (r + 1)) : r = gn cubeRoots j := by
  obtain ⟨k2, k1, _⟩ := cubeRoots_ok j hj
  rcases Nat.lt_trichotomy r (gn cubeRoots j) with h | h | h
  · have := mono3 (show r + 1 ≤ gn cubeRoots j by omega); omega
  · exact h
  · have := mono3 (show gn cubeRoots j + 1 ≤ r by omega); omega
theorem square_root_one (j r : Nat) (hj : j < 8) (h1 : r * r ≤ gn P64 j * 18446744073709551616) (h2 : gn P64 j * 18446744073709551616 < (r + 1) * (r + 1)) : r = gn squareRoots j := by
  obtain ⟨k2, k1, _⟩ := squareRoots_ok j hj
  rcases Nat.lt_trichotomy r (gn squareRoots j) with h | h | h
  · have := Nat.mul_le_mul (show r + 1 ≤ gn squareRoots j by omega) (show r + 1 ≤ gn squareRoots j by omega); omega
  · exact h
  · have := Nat.mul_le_mul (show gn squareRoots j + 1 ≤ r by omega) (show gn squareRoots j + 1 ≤ r by omega); omega
end Go.Proofs.YtjccjlhnjihfjaaDoor

/-! The blocks of bytes, on lists: no program in sight. -/
namespace Go.Proofs.YtjccjlhnjihfjaaDoor
open Go

/-- 64 bytes. -/
abbrev Blk := { x : List By // x.length = 64 }
/-- The first 64 of bytes. -/
def mkBlk (l : List By) : Blk := ⟨(l ++ List.replicate 64 0).take 64, by simp⟩
theorem mkBlk_ge (l : List By) (h : 64 ≤ l.length) : (mkBlk l).1 = l.take 64 := by
  show (l ++ List.replicate 64 0).take 64 = l.take 64
  rw [List.take_append_of_le_length h]
/-- How many bytes 00 stand behind the byte 80. -/
def padZ (n : Nat) : Nat := (119 - n % 64) % 64
theorem padZ_le (n : Nat) : padZ n ≤ 63 := by unfold padZ; omega
theorem padZ_mod (n : Nat) : (n + 1 + padZ n) % 64 = 56 := by unfold padZ; omega
/-- How many bits there are, as eight bytes. -/
def lenB (n : Nat) : List By := (List.range 8).map fun j => BitVec.ofNat 8 (8 * n / 2 ^ (8 * (7 - j)))
theorem lenB_length (n : Nat) : (lenB n).length = 8 := by simp [lenB]
theorem lenB_get (n j : Nat) (h : j < 8) : (lenB n)[j]? = some (BitVec.ofNat 8 (8 * n / 2 ^ (8 * (7 - j)))) := by simp [lenB, h]
/-- The bytes of the blocks. -/
def padL (b : List By) : List By := b ++ (128 :: (List.replicate (padZ b.length) 0 ++ lenB b.length))
theorem padL_length (b : List By) : (padL b).length = b.length + padZ b.length + 9 := by
  unfold padL
  rw [List.length_append, List.length_cons, List.length_append, List.length_replicate, lenB_length]
  omega
/-- How many blocks. -/
def nb (b : List By) : Nat := (b.length + padZ b.length + 9) / 64
theorem nb_mul (b : List By) : 64 * nb b = (padL b).length := by
  have := padZ_mod b.length
  rw [padL_length]
  unfold nb
  omega
/-- The blocks. -/
def blkAt (b : List By) (i : Nat) : Blk := mkBlk ((padL b).drop (64 * i))
def blkTo (b : List By) (k : Nat) : List Blk := (List.range k).map (blkAt b)
theorem blkTo_succ (b : List By) (k : Nat) : blkTo b (k + 1) = blkTo b k ++ [blkAt b k] := by unfold blkTo; rw [List.range_succ]; simp
theorem blkAt_take (b : List By) (i : Nat) (h : i < nb b) : (blkAt b i).1 = ((padL b).drop (64 * i)).take 64 := by
  unfold blkAt
  exact mkBlk_ge _ (by rw [List.length_drop, ← nb_mul]; omega)
/-- A block within the bytes. -/
theorem blkAt_full (b : List By) (i : Nat) (h : 64 * i + 64 ≤ b.length) : (blkAt b i).1 = (b.drop (64 * i)).take 64 := by
  have hn : i < nb b := by unfold nb; omega
  rw [blkAt_take b i hn]
  unfold padL
  rw [List.drop_append_of_le_length (by omega), List.take_append_of_le_length (by rw [List.length_drop]; omega)]
theorem nb_small (b : List By) (h : b.length % 64 + 9 ≤ 64) : nb b = b.length / 64 + 1 := by unfold nb padZ; omega
theorem nb_great (b : List By) (h : 64 < b.length % 64 + 9) : nb b = b.length / 64 + 2 := by unfold nb padZ; omega
/-- The last block, where what is left and the length fit into one. -/
theorem blkAt_small (b : List By) (h : b.length % 64 + 9 ≤ 64) : (blkAt b (b.length / 64)).1 = b.drop (64 * (b.length / 64)) ++ (128 :: (List.replicate (55 - b.length % 64) 0 ++ lenB b.length)) := by
  rw [blkAt_take b _ (by rw [nb_small b h]; omega)]
  unfold padL
  have e : padZ b.length = 55 - b.length % 64 := by unfold padZ; omega
  rw [List.drop_append_of_le_length (by omega), e, List.take_of_length_le]
  simp only [List.length_append, List.length_drop, List.length_cons, List.length_replicate, lenB_length]
  omega
theorem blkAt_great (b : List By) (h : 64 < b.length % 64 + 9) : (blkAt b (b.length / 64)).1 = b.drop (64 * (b.length / 64)) ++ (128 :: List.replicate (63 - b.length % 64) 0) ∧ (blkAt b (b.length / 64 + 1)).1 = List.replicate 56 0 ++ lenB b.length := by
  have hn := nb_great b h
  have e : padZ b.length = (63 - b.length % 64) + 56 := by unfold padZ; omega
  have e2 : padL b = (b ++ (128 :: List.replicate (63 - b.length % 64) 0)) ++ (List.replicate 56 0 ++ lenB b.length) := by
    unfold padL
    rw [e, ← List.replicate_append_replicate]
    simp only [List.append_assoc, List.cons_append]
  have hl : (b ++ (128 :: List.replicate (63 - b.length % 64) 0)).length = 64 * (b.length / 64 + 1) := by
    simp only [List.length_append, List.length_cons, List.length_replicate]
    omega
  constructor
  · rw [blkAt_take b _ (by omega), e2, List.drop_append_of_le_length (by omega), List.take_append_of_le_length (by rw [List.length_drop, hl]; omega), List.take_of_length_le (by rw [List.length_drop, hl]; omega), List.drop_append_of_le_length (by omega)]
  · rw [blkAt_take b _ (by omega), e2, ← hl, List.drop_left, List.take_of_length_le (by simp [lenB_length])]

/-- The length goes into the last eight of 64 bytes, the lowest first. -/
def lenSet (l : List By) (n : Nat) : Nat → List By
  | 0 => l
  | k + 1 => (lenSet l n k).set (63 - k) (BitVec.ofNat 8 (8 * n / 2 ^ (8 * k)))
theorem lenSet_length (l : List By) (n k : Nat) : (lenSet l n k).length = l.length := by
  induction k with
  | zero => rfl
  | succ k ih => rw [lenSet, List.length_set, ih]
theorem lenSet_get (l : List By) (n : Nat) (hl : l.length = 64) : ∀ k, k ≤ 8 → ∀ j, (lenSet l n k)[j]? = if 64 - k ≤ j ∧ j < 64 then some (BitVec.ofNat 8 (8 * n / 2 ^ (8 * (63 - j)))) else l[j]?
  | 0, _, j => by
    rw [lenSet, if_neg (by omega)]
  | k + 1, h, j => by
    rw [lenSet, List.getElem?_set, lenSet_length, hl]
    by_cases hj : 63 - k = j
    · subst hj
      rw [if_pos rfl, if_pos (by omega), if_pos (by omega), show 63 - (63 - k) = k by omega]
    · rw [if_neg hj, lenSet_get l n hl k (by omega) j]
      by_cases h2 : 64 - k ≤ j ∧ j < 64
      · rw [if_pos h2, if_pos (by omega)]
      · rw [if_neg h2, if_neg (by omega)]
theorem lenSet_all (l : List By) (n : Nat) (hl : l.length = 64) : lenSet l n 8 = l.take 56 ++ lenB n := by
  apply List.ext_getElem?
  intro j
  rw [lenSet_get l n hl 8 (by omega) j]
  by_cases h : 56 ≤ j
  · rw [List.getElem?_append_right (by rw [List.length_take]; omega), List.length_take, show min 56 l.length = 56 by omega]
    by_cases h2 : j < 64
    · rw [if_pos (by omega), lenB_get n (j - 56) (by omega), show 7 - (j - 56) = 63 - j by omega]
    · rw [if_neg (by omega), List.getElem?_eq_none (by omega), List.getElem?_eq_none (by rw [lenB_length]; omega)]
  · rw [if_neg (by omega), List.getElem?_append_left (by rw [List.length_take]; omega), List.getElem?_take, if_pos (by omega)]
theorem set_128 (l : List By) (r : Nat) (hl : l.length = r) (hr : r < 64) : (l ++ List.replicate (64 - r) 0).set r 128 = l ++ (128 :: List.replicate (63 - r) 0) := by
  rw [List.set_append_right r _ (by omega), hl, Nat.sub_self, show 64 - r = (63 - r) + 1 by omega, List.replicate_succ, List.set_cons_zero]

theorem lenByte (i L k : Nat) : 8 * (64 * (i : Int) + (L : Int)) / 2 ^ (8 * k) % 256 = v8 (BitVec.ofNat 8 (8 * (64 * i + L) / 2 ^ (8 * k))) := by
  unfold v8
  rw [BitVec.toNat_ofNat]
  have e : 8 * (64 * (i : Int) + (L : Int)) / 2 ^ (8 * k) = ((8 * (64 * i + L) / 2 ^ (8 * k) : Nat) : Int) := by
    rw [Int.natCast_ediv, Int.natCast_pow]
    push_cast
    rfl
  rw [e]
  omega
/-- The state that blocks lead to; the sum. -/
def chain (s : List Wd) (l : List Blk) : List Wd := l.foldl (fun s x => furtherL s KW x.1) s
theorem chain_snoc (s : List Wd) (l : List Blk) (x : Blk) : chain s (l ++ [x]) = furtherL (chain s l) KW x.1 := by simp [chain]
theorem chain_length (s : List Wd) (hs : s.length = 8) (l : List Blk) : (chain s l).length = 8 := by
  rcases List.eq_nil_or_concat l with rfl | ⟨p, x, rfl⟩
  · exact hs
  · rw [List.concat_eq_append, chain_snoc]; exact furtherL_length _ _ _
def sumL (b : List By) : List By := sumB (chain HW (blkTo b (nb b)))
theorem sumL_length (b : List By) : (sumL b).length = 32 := sumB_length _
end Go.Proofs.YtjccjlhnjihfjaaDoor

/-! What sha.blocks tells: the blocks of bytes, one by one. -/
namespace Go.Proofs.YtjccjlhnjihfjaaDoor
open Go Go.RowKit Go.Shelf
attribute [local go_sem] Oper.semAt_some

theorem run_arrayAt {P : Program} (t e : TypeId) (n : Nat) (hu : P.underlying t = some (.array n e)) (x : Option Addr) (L C : Nat) (h : n ≤ L) (W : World) : (Instr.arrayAt t (.slice x L C)).run P W = .ok (.pointer x) W := by
  simp [Instr.arrayAt, run_underlying hu, show ¬ L < n by omega]
/-- What is told of a block. -/
def encB (x : Blk) : Array Value := #[.agg (bs x.1)]
def lenOfV : Value → Nat
  | .slice _ l _ => l
  | _ => 0
/-- 64 bytes 00. -/
def zB : List By := List.replicate 64 0
theorem bl_bs (x : List By) : (bl x).toArray = bs x := rfl

set_option maxRecDepth 100000 in
set_option maxHeartbeats 1000000 in
theorem blocks1_in (F : Fence) (n : Nat) (h6 : F.fn 138) (hro : F.round = none) (hn : 1 ≤ n) (l Bn st g off : Nat) (a : Option Addr) (len cap : Nat) (b : List By) (hb : b.length = len) (hl : len ≤ 1048576) (hcap : len ≤ cap) (ha : 0 < len → a = some ⟨g, off, none⟩) (hgs : 0 < len → g ≠ st) (hBs : Bn ≠ st) (J : List Blk → World → Prop)
    (W : World) (hBn : W.cell? ⟨Bn, 0, none⟩ = some (.slice a len cap)) (hBl : Bn < W.heap.size) (hst : st < W.heap.size) (hgl : 0 < len → g < W.heap.size) (hc : ∀ j : Nat, j < len → W.cell? ⟨g, off + j, none⟩ = some (.int .u8 (v8 (gb b j))))
    (hJ : ∀ s A B, J s A → Below W.heap.size A B → J s B)
    (hY : ∀ pre x W1, J pre W1 → YieldAt F (n - 1) Tryd.prog l (encB x) W1 fun e W' => e = .returned (.bool true) ∧ J (pre ++ [x]) W' ∧ Keep1 st W1 W')
    (h0 : J [] W) :
    CallsIn F n Tryd.prog 138 #[.func (.yield l) #[] #[], .pointer (some ⟨Bn, 0, none⟩)] W fun e W' => (∃ v, e = .returned v) ∧ J (blkTo b (nb b)) W' := by
  have HB : Hid (b.length = len) := hb
  have HA : Hid (0 < len → a = some ⟨g, off, none⟩) := ha
  have HG : Hid (0 < len → g ≠ st) := hgs
  have HGL : Hid (0 < len → g < W.heap.size) := hgl
  have HC : Hid (∀ j : Nat, j < len → W.cell? ⟨g, off + j, none⟩ = some (.int .u8 (v8 (gb b j)))) := hc
  clear hb ha hgs hgl hc
  refine callsIn_of_wp Tryd.func138 rfl h6 ?_ hro
  simp only [Tryd.ntmps138, List.size_toArray, List.length_cons, List.length_nil, Nat.reduceAdd, Nat.reduceSub, Array.replicate_succ, Array.replicate_zero, List.push_toArray, List.append_toArray, List.nil_append, List.cons_append]
  gi_wp2
  gi_loopw [3] (fun rv wr => ∃ (i L C : Nat) (a' : Option Addr), len = 64 * i + L ∧ cap = 64 * i + C ∧ L ≤ C ∧ rv = .slice a' L C ∧ Hid (0 < L → a' = some ⟨g, off + 64 * i, none⟩) ∧ J (blkTo b i) wr ∧ Keep1 st W wr)
    (fun rv _ => lenOfV rv)
  case atStart =>
    exact ⟨0, len, cap, a, by omega, by omega, hcap, rfl, fun h => by rw [HA.out h]; simp, h0, Keep1.refl _ _⟩
  case round =>
    obtain ⟨i, L, C, a', rfl, rfl, hLC, rfl, HA', hJi, hk⟩ := hrel
    by_cases h64 : 64 ≤ L
    · have hpos : 0 < L := by omega
      rw [HA'.out hpos]
      have hfull : Hid ((blkAt b i).1 = (b.drop (64 * i)).take 64) := blkAt_full b i (by rw [HB.out]; omega)
      have hrange : wr.rangeAt g (off + 64 * i) (bl (blkAt b i).1) := by
        intro j v hv
        have hj : j < 64 := by have := (List.getElem?_eq_some_iff.1 hv).1; simpa [bl, (blkAt b i).2] using this
        rw [Nat.add_assoc, hk.cell (HGL.out (by omega)) (HG.out (by omega)), HC.out (64 * i + j) (by omega)]
        rw [← hv]
        unfold bl gb
        rw [hfull.out, List.getElem?_map, List.getElem?_take, if_pos hj, List.getElem?_drop, List.getElem?_eq_getElem (by rw [HB.out]; omega)]
        rfl
      have hclen : (bl (blkAt b i).1).length = 64 := by simp [bl, (blkAt b i).2]
      obtain ⟨fn, tmps, assign, body, hy, hR⟩ := hY (blkTo b i) (blkAt b i) wr hJi
      unfold encB at hy
      rw [← bl_bs] at hy
      rw [← blkTo_succ] at hR
      generalize (blkAt b i).1 = x at *
      have hLi : ¬ ((L : Int) < 64) := by omega
      have harr := fun W => run_arrayAt (P := Tryd.prog) 162 5 64 Tryd.underlying162 (some ⟨g, off + 64 * i, none⟩) L C h64 W
      by_cases hC : C = 64
      · subst hC
        obtain rfl : L = 64 := by omega
        gi_wp2_with (with_reducible (show wpListIn _ _ _ _ _ (⟨_, Op.load 162 _, _, _, _, _⟩ :: _) _ _)
                     refine load_midIn rfl 162 _ rfl g (off + 64 * i) rfl (bl x) hrange 64 5 Tryd.underlying162 (by kernel_rfl) hclen ?_)
        refine hR.mono ?_
        rintro e W3 ⟨rfl, hJ3, hk3⟩
        gi_wp2
        go_roundw
        case rel => exact ⟨i + 1, 0, 0, some ⟨g, off + 64 * i, none⟩, by omega, by omega, by omega, rfl, fun h => by omega, hJ3, hk.trans hk3⟩
        case measure => simp [lenOfV]
      · have hC' : 64 < C := by omega
        gi_wp2_with (with_reducible (show wpListIn _ _ _ _ _ (⟨_, Op.load 162 _, _, _, _, _⟩ :: _) _ _)
                     refine load_midIn rfl 162 _ rfl g (off + 64 * i) rfl (bl x) hrange 64 5 Tryd.underlying162 (by kernel_rfl) hclen ?_)
        refine hR.mono ?_
        rintro e W3 ⟨rfl, hJ3, hk3⟩
        gi_wp2
        go_roundw
        case rel => exact ⟨i + 1, L - 64, C - 64, some ⟨g, off + 64 * (i + 1), none⟩, by omega, by omega, by omega, by first | rfl | (rw [show off + 64 * (i + 1) = off + 64 * i + 64 by omega]), fun h => rfl, hJ3, hk.trans hk3⟩
        case measure => simp [lenOfV]; omega
    · have hL64 : L < 64 := by omega
      have hq : Hid (b.length / 64 = i ∧ b.length % 64 = L) := show b.length / 64 = i ∧ b.length % 64 = L by rw [HB.out]; omega
      have hrest : Hid ((b.drop (64 * i)).length = L) := show (b.drop (64 * i)).length = L by rw [List.length_drop, HB.out]; omega
      have hcp : (Builtin.copy_ #[28, 28] 3 #[.slice (some ⟨wr.heap.size, 0, none⟩) 64 64, .slice a' L C]).run Tryd.prog (wr.alloc (.cells (bs zB) 162)) = .ok (goInt L) (wr.alloc (.cells (bs (b.drop (64 * i) ++ List.replicate (64 - L) 0)) 162)) := by
        by_cases hL0 : L = 0
        · have h0 : b.drop (64 * i) = [] := List.eq_nil_of_length_eq_zero (by rw [hrest.out, hL0])
          rw [h0, hL0]
          exact run_copy_none _ _ _ _ 5 _ _ _ _ _ _ Tryd.underlying28 (by kernel_rfl) (by simp)
        · rw [HA'.out (by omega)]
          have := run_copy_row (P := Tryd.prog) (wr.alloc (.cells (bs zB) 162)) 28 28 3 5 wr.heap.size 0 64 64 ⟨g, off + 64 * i, none⟩ L C (bs zB) 162 (bl (b.drop (64 * i))) Tryd.underlying28 (by kernel_rfl) (heap_alloc_new _ _) (by simp only [bl, List.length_map, hrest.out]; exact (Nat.min_eq_left (by omega)).symm)
            (fun j v hv => by
              have hj : j < L := by have := (List.getElem?_eq_some_iff.1 hv).1; simpa only [bl, List.length_map, hrest.out] using this
              rw [Addr.add_mid, Nat.add_assoc]
              have hg1 : g < wr.heap.size := Nat.lt_of_lt_of_le (HGL.out (by omega)) hk.size
              rw [show (wr.alloc (.cells (bs zB) 162)).cell? ⟨g, off + (64 * i + j), none⟩ = wr.cell? ⟨g, off + (64 * i + j), none⟩ from World.cell?_of_block (w := wr) (Below.heap_alloc wr _ g hg1), hk.cell (HGL.out (by omega)) (HG.out (by omega)), HC.out (64 * i + j) (by omega), ← hv]
              unfold bl gb
              rw [List.getElem?_map, List.getElem?_drop, List.getElem?_eq_getElem (by rw [HB.out]; omega)]
              rfl)
            (by simp only [bl, List.length_map, hrest.out, bs_size]; show 0 + L ≤ 64; omega) (fun v hv => by
              obtain ⟨z, _, rfl⟩ := List.mem_map.1 hv
              rfl)
          rw [World.setRow_alloc_new] at this
          rw [show (bl (b.drop (64 * i))).length = L by simp only [bl, List.length_map, hrest.out]] at this
          refine this.trans ?_
          congr 3
          apply Array.ext'
          simp only [bs, bl, zB, List.take_zero, List.nil_append, Nat.zero_add, List.map_append, List.map_replicate, List.drop_replicate]
      have hset : (bs (b.drop (64 * i) ++ List.replicate (64 - L) 0)).setIfInBounds L (.int .u8 128) = bs (b.drop (64 * i) ++ (128 :: List.replicate (63 - L) 0)) := by
        rw [← set_128 _ L hrest.out hL64, ← bs_set]
        rfl
      have hT0 : (b.drop (64 * i) ++ (128 :: List.replicate (63 - L) 0)).length = 64 := by
        rw [List.length_append, hrest.out, List.length_cons, List.length_replicate]; omega
      have hT := veil hT0
      clear hT0
      have hGW : W.heap.size ≤ wr.heap.size := hk.size
      obtain ⟨v0, hv0⟩ : ∃ v0, (wr.alloc (.cells (bs (b.drop (64 * i) ++ List.replicate (64 - L) 0)) 162)).cell? ⟨wr.heap.size, L, none⟩ = some v0 := ⟨_, (Row.new _ _ _).cellB (by rw [List.length_append, hrest.out, List.length_replicate]; omega)⟩
      have hcB : wr.cell? ⟨Bn, 0, none⟩ = some (.slice a (64 * i + L) (64 * i + C)) := (hk.cell hBl hBs).trans hBn
      have hd10 : decide ((64 : Int) ≤ (L : Int)) = false := by simp; omega
      by_cases hsm : L + 9 ≤ 64
      · have hdc : decide ((64 : Int) < (L : Int) + 1 + 8) = false := by simp; omega
        have HLB : Hid ((blkAt b i).1 = (b.drop (64 * i) ++ (128 :: List.replicate (63 - L) 0)).take 56 ++ lenB b.length) := show _ = _ by
          have h := blkAt_small b (by rw [hq.out.2]; exact hsm)
          rw [hq.out.1, hq.out.2] at h
          rw [h]
          have e : b.drop (64 * i) ++ (128 :: List.replicate (63 - L) (0 : By)) = (b.drop (64 * i) ++ (128 :: List.replicate (55 - L) 0)) ++ List.replicate 8 0 := by
            rw [show 63 - L = (55 - L) + 8 by omega, ← List.replicate_append_replicate]
            simp only [List.append_assoc, List.cons_append]
          rw [e, List.take_append_of_le_length (by rw [List.length_append, hrest.out, List.length_cons, List.length_replicate]; omega), List.take_of_length_le (by rw [List.length_append, hrest.out, List.length_cons, List.length_replicate]; omega)]
          simp only [List.append_assoc, List.cons_append]
        have HNB : Hid (nb b = i + 1) := show nb b = i + 1 by rw [nb_small b (by rw [hq.out.2]; exact hsm), hq.out.1]
        have HN : Hid (b.length = 64 * i + L) := HB.out
        rw [HN.out] at HLB
        have jV : J (blkTo b i) (wr.alloc (.cells (bs (b.drop (64 * i) ++ (128 :: List.replicate (63 - L) 0))) 162)) := hJ _ _ _ hJi ((Below.refl _ wr).alloc (by exact Nat.le_refl _) _ |>.mono hGW)
        have rV : Row (wr.alloc (.cells (bs (b.drop (64 * i) ++ (128 :: List.replicate (63 - L) 0))) 162)) wr.heap.size 162 (bs (b.drop (64 * i) ++ (128 :: List.replicate (63 - L) 0))) := Row.new _ _ _
        have hbase := hT
        have cV : (wr.alloc (.cells (bs (b.drop (64 * i) ++ (128 :: List.replicate (63 - L) 0))) 162)).cell? ⟨Bn, 0, none⟩ = some (.slice a (64 * i + L) (64 * i + C)) := (World.cell?_of_block (w := wr) (Below.heap_alloc wr _ Bn (Nat.lt_of_lt_of_le hBl hk.size))).trans hcB
        clear hrest hT
        generalize b.drop (64 * i) ++ (128 :: List.replicate (63 - L) 0) = T at *
        generalize b.drop (64 * i) ++ List.replicate (64 - L) 0 = T0 at *
        gi_wp2_with (first
          | (with_reducible (show wpListIn _ _ _ _ _ (⟨_, Op.alloc 162, _, _, _, _⟩ :: _) _ _)
             refine alloc_rowIn rfl 162 rfl (bs zB) (by kernel_rfl) ?_))
        generalize wr.heap.size = G at *
        gi_loopw [39] (fun iv wv => ∃ k : Nat, k ≤ 8 ∧ iv = .int .i64 k ∧ Row wv G 162 (bs (lenSet T (64 * i + L) k)) ∧ J (blkTo b i) wv)
          (fun iv _ => 8 - (intOf iv).toNat)
        case atStart => exact ⟨0, by omega, rfl, rV, jV⟩
        case round =>
          clear rV jV cV
          obtain ⟨k, hk8, rfl, rV, jV⟩ := hrel
          by_cases hlt : k < 8
          · obtain ⟨v, hv⟩ : ∃ v, wr.cell? ⟨G, 63 - k, none⟩ = some v := ⟨_, rV.cellB (by rw [lenSet_length, hbase.out]; omega)⟩
            have fV := rV.frozen (63 - k)
            have hsh := veil (lenByte i L k)
            gi_wp2
            go_roundw
            case rel =>
              rw [hsh.out]
              refine ⟨k + 1, by omega, by go_num, ?_, hJ _ _ _ jV ((Below.refl _ _).setCell (p := ⟨G, 63 - k, none⟩) hGW _)⟩
              have := rV.set (63 - k) (.int .u8 (v8 (BitVec.ofNat 8 (8 * (64 * i + L) / 2 ^ (8 * k)))))
              rw [bs_set] at this
              exact this
            case measure => simp [intOf]; omega
          · rw [show k = 8 by omega, lenSet_all _ _ hbase.out, ← HLB.out] at rV
            have hd8 : decide ((k : Int) < 8) = false := by simp; omega
            obtain ⟨fn, tmps, assign, body, hy, hR⟩ := hY (blkTo b i) (blkAt b (i)) wr jV
            unfold encB at hy
            rw [← blkTo_succ, ← HNB.out] at hR
            have hx64 : (bs (blkAt b (i)).1).size = 64 := by rw [bs_size, (blkAt b (i)).2]
            clear HLB hbase
            generalize (blkAt b (i)).1 = x at *
            gi_wp2_with (with_reducible (show wpListIn _ _ _ _ _ (⟨_, Op.load 162 _, _, _, _, _⟩ :: _) _ _)
                         refine load_rowIn rfl 162 _ rfl G rfl _ _ rV 64 5 Tryd.underlying162 (by kernel_rfl) hx64 ?_)
            refine hR.mono ?_
            rintro e W5 ⟨rfl, hJ5, hk5⟩
            gi_wp2
            go_end0
            exact ⟨⟨_, rfl⟩, hJ5⟩
      · have hdc : decide ((64 : Int) < (L : Int) + 1 + 8) = true := by simp; omega
        have HBG := blkAt_great b (by rw [hq.out.2]; omega)
        rw [hq.out.1, hq.out.2] at HBG
        have HX1 := veil HBG.1
        have HLB := veil (HBG.2.trans (show List.replicate 56 (0 : By) ++ lenB b.length = zB.take 56 ++ lenB (64 * i + L) by rw [HB.out]; rfl))
        have HNB : Hid (nb b = i + 1 + 1) := show nb b = i + 1 + 1 by rw [nb_great b (by rw [hq.out.2]; omega), hq.out.1]
        have jV : J (blkTo b i) (wr.alloc (.cells (bs (b.drop (64 * i) ++ (128 :: List.replicate (63 - L) 0))) 162)) := hJ _ _ _ hJi ((Below.refl _ wr).alloc (by exact Nat.le_refl _) _ |>.mono hGW)
        have rV : Row (wr.alloc (.cells (bs (b.drop (64 * i) ++ (128 :: List.replicate (63 - L) 0))) 162)) wr.heap.size 162 (bs (b.drop (64 * i) ++ (128 :: List.replicate (63 - L) 0))) := Row.new _ _ _
        have cV : (wr.alloc (.cells (bs (b.drop (64 * i) ++ (128 :: List.replicate (63 - L) 0))) 162)).cell? ⟨Bn, 0, none⟩ = some (.slice a (64 * i + L) (64 * i + C)) := (World.cell?_of_block (w := wr) (Below.heap_alloc wr _ Bn (Nat.lt_of_lt_of_le hBl hk.size))).trans hcB
        obtain ⟨fn, tmps, assign, body, hy, hR⟩ := hY (blkTo b i) (blkAt b i) _ jV
        unfold encB at hy
        rw [← blkTo_succ] at hR
        rw [HX1.out] at hy
        have hxs : (bs (b.drop (64 * i) ++ (128 :: List.replicate (63 - L) 0))).size = 64 := by rw [bs_size, hT.out]
        have hwr : Bn < wr.heap.size := Nat.lt_of_lt_of_le hBl hk.size
        have hstG : wr.heap.size ≠ st := by omega
        clear hrest hT HBG HX1
        generalize b.drop (64 * i) ++ (128 :: List.replicate (63 - L) 0) = T at *
        generalize b.drop (64 * i) ++ List.replicate (64 - L) 0 = T0 at *
        gi_wp2_with (first
          | (with_reducible (show wpListIn _ _ _ _ _ (⟨_, Op.alloc 162, _, _, _, _⟩ :: _) _ _)
             refine alloc_rowIn rfl 162 rfl (bs zB) (by kernel_rfl) ?_)
          | (with_reducible (show wpListIn _ _ _ _ _ (⟨_, Op.load 162 _, _, _, _, _⟩ :: _) _ _)
             refine load_rowIn rfl 162 _ rfl wr.heap.size rfl _ _ rV 64 5 Tryd.underlying162 (by kernel_rfl) hxs ?_))
        refine hR.mono ?_
        rintro e W3 ⟨rfl, hJ3, hk3⟩
        have r3 : Row W3 wr.heap.size 162 (bs T) := hk3.row rV hstG
        have c3 : (W3.setRow wr.heap.size (bs zB)).cell? ⟨Bn, 0, none⟩ = some (.slice a (64 * i + L) (64 * i + C)) := (World.cell?_of_block (w := W3) (setRow_other W3 wr.heap.size Bn (bs zB) (by omega))).trans ((hk3.cell (by simp; omega) hBs).trans cV)
        have rV2 := r3.put (bs zB)
        have jV2 : J (blkTo b (i + 1)) (W3.setRow wr.heap.size (bs zB)) := hJ _ _ _ hJ3 (bSetRow (Below.refl _ _) hGW _)
        have hbase : Hid (zB.length = 64) := rfl
        clear rV jV cV
        have rV := rV2
        have jV := jV2
        have cV := c3
        clear rV2 jV2 c3
        gi_wp2_with (first
          | (with_reducible (show wpListIn _ _ _ _ _ (⟨_, Op.build 162 _, _, _, _, _⟩ :: _) _ _)
             refine build_rowIn rfl 162 _ rfl (bs zB) (by kernel_rfl) ?_)
          | (with_reducible (show wpListIn _ _ _ _ _ (⟨_, Op.store 162 _ _, _, _, _, _⟩ :: _) _ _)
             refine store_rowIn rfl 162 _ _ rfl wr.heap.size (bs zB) rfl rfl _ _ r3 64 (by kernel_rfl) hxs (by rfl) (bs_one _) ?_))
        generalize wr.heap.size = G at *
        gi_loopw [39] (fun iv wv => ∃ k : Nat, k ≤ 8 ∧ iv = .int .i64 k ∧ Row wv G 162 (bs (lenSet zB (64 * i + L) k)) ∧ J (blkTo b (i + 1)) wv)
          (fun iv _ => 8 - (intOf iv).toNat)
        case atStart => exact ⟨0, by omega, rfl, rV, jV⟩
        case round =>
          clear rV jV cV
          obtain ⟨k, hk8, rfl, rV, jV⟩ := hrel
          by_cases hlt : k < 8
          · obtain ⟨v, hv⟩ : ∃ v, wr.cell? ⟨G, 63 - k, none⟩ = some v := ⟨_, rV.cellB (by rw [lenSet_length, hbase.out]; omega)⟩
            have fV := rV.frozen (63 - k)
            have hsh := veil (lenByte i L k)
            gi_wp2
            go_roundw
            case rel =>
              rw [hsh.out]
              refine ⟨k + 1, by omega, by go_num, ?_, hJ _ _ _ jV ((Below.refl _ _).setCell (p := ⟨G, 63 - k, none⟩) hGW _)⟩
              have := rV.set (63 - k) (.int .u8 (v8 (BitVec.ofNat 8 (8 * (64 * i + L) / 2 ^ (8 * k)))))
              rw [bs_set] at this
              exact this
            case measure => simp [intOf]; omega
          · rw [show k = 8 by omega, lenSet_all _ _ hbase.out, ← HLB.out] at rV
            have hd8 : decide ((k : Int) < 8) = false := by simp; omega
            obtain ⟨fn, tmps, assign, body, hy, hR⟩ := hY (blkTo b (i + 1)) (blkAt b (i + 1)) wr jV
            unfold encB at hy
            rw [← blkTo_succ, ← HNB.out] at hR
            have hx64 : (bs (blkAt b (i + 1)).1).size = 64 := by rw [bs_size, (blkAt b (i + 1)).2]
            clear HLB hbase
            generalize (blkAt b (i + 1)).1 = x at *
            gi_wp2_with (with_reducible (show wpListIn _ _ _ _ _ (⟨_, Op.load 162 _, _, _, _, _⟩ :: _) _ _)
                         refine load_rowIn rfl 162 _ rfl G rfl _ _ rV 64 5 Tryd.underlying162 (by kernel_rfl) hx64 ?_)
            refine hR.mono ?_
            rintro e W5 ⟨rfl, hJ5, hk5⟩
            gi_wp2
            go_end0
            exact ⟨⟨_, rfl⟩, hJ5⟩
end Go.Proofs.YtjccjlhnjihfjaaDoor
