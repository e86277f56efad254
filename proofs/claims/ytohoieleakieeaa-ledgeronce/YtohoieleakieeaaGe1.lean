/-
  Out of ShaWord, ShaArr, ShaPlain, ShaSched, ShaFurther, ShaPrimes, ShaPad, ShaChPlain.
-/
import Derived.Laws.BitsAllLaws
import Derived.WalkKit
import Derived.WalkSpells
import Derived.WalkLawsBesides
import Derived.Deep.WholeRow
import Derived.Laws.ResultCell
import Derived.Laws.AppendOwn
import Derived.Laws.AppendOwnNone
import Derived.OwnWalk
import Derived.RangeFuncBox
import Derived.Maps.AppendAt
import Derived.Below

/-! Words of 32 bits, and the numbers that memory holds of them: no program in sight. -/
namespace Go.Proofs.Ytohoieleakieeaa
open Go

abbrev Wd := BitVec 32

/-- A word as the number that memory holds. -/
def u (x : Wd) : Int := (x.toNat : Int)
theorem u_nn (x : Wd) : 0 ≤ u x := by unfold u; omega
theorem u_le (x : Wd) : u x ≤ 4294967295 := by have := x.isLt; unfold u; omega
theorem u_inj {x y : Wd} (h : u x = u y) : x = y := by unfold u at h; apply BitVec.eq_of_toNat_eq; omega

/-- The word of a number. -/
def wd (z : Int) : Wd := BitVec.ofNat 32 z.toNat
theorem u_wd (z : Int) (h0 : 0 ≤ z) (h1 : z ≤ 4294967295) : u (wd z) = z := by
  unfold u wd
  rw [BitVec.toNat_ofNat]
  omega

def xr (a b : Wd) : Wd := a ^^^ b
def an (a b : Wd) : Wd := a &&& b
def oo (a b : Wd) : Wd := a ||| b
def nt (a : Wd) : Wd := ~~~a
def ad (a b : Wd) : Wd := a + b
def sb (a b : Wd) : Wd := a - b
def sr (x : Wd) (n : Nat) : Wd := x >>> n
def sl (x : Wd) (n : Nat) : Wd := x <<< n
/-- Turned right by n bits. -/
def rr (x : Wd) (n : Nat) : Wd := oo (sr x n) (sl x (32 - n))

theorem u_nat (x : Wd) : (u x).toNat = x.toNat := by unfold u; omega
theorem bx (a b : Wd) : bits .xor .u32 (u a) (u b) = u (xr a b) := by
  rw [u32_xor _ _ (u_nn a) (by have := u_le a; omega) (u_nn b) (by have := u_le b; omega), u_nat, u_nat]
  unfold u xr
  rw [BitVec.toNat_xor]
theorem ba (a b : Wd) : bits .and .u32 (u a) (u b) = u (an a b) := by
  rw [u32_and _ _ (u_nn a) (by have := u_le a; omega) (u_nn b) (by have := u_le b; omega), u_nat, u_nat]
  unfold u an
  rw [BitVec.toNat_and]
theorem bo (a b : Wd) : bits .or .u32 (u a) (u b) = u (oo a b) := by
  rw [u32_or _ _ (u_nn a) (by have := u_le a; omega) (u_nn b) (by have := u_le b; omega), u_nat, u_nat]
  unfold u oo
  rw [BitVec.toNat_or]
theorem wadd (a b : Wd) : (u a + u b) % 4294967296 = u (ad a b) := by
  unfold u ad
  rw [BitVec.toNat_add]
  omega
theorem wsub (a b : Wd) : (u a - u b) % 4294967296 = u (sb a b) := by
  have ha := a.isLt
  have hb := b.isLt
  unfold u sb
  rw [BitVec.toNat_sub]
  omega
theorem wnot (a : Wd) : 4294967295 - u a = u (nt a) := by
  have ha := a.isLt
  unfold u nt
  rw [BitVec.toNat_not]
  omega
theorem wsr (a : Wd) (n : Nat) : u a / 2 ^ n = u (sr a n) := by
  unfold u sr
  rw [BitVec.toNat_ushiftRight, Nat.shiftRight_eq_div_pow]
  simp
theorem wsl (a : Wd) (n : Nat) : (u a * 2 ^ n) % 4294967296 = u (sl a n) := by
  unfold u sl
  rw [BitVec.toNat_shiftLeft, Nat.shiftLeft_eq]
  simp

/-- Not, as the walk spells it. -/
theorem bnot (a : Wd) : bits .xor .u32 (if IntKind.u32.signed = true then -1 else IntKind.u32.max) (u a) = u (nt a) := by
  have e : (if IntKind.u32.signed = true then -1 else IntKind.u32.max) = u (BitVec.allOnes 32) := by decide +kernel
  rw [e, bx]
  unfold xr nt
  rw [BitVec.allOnes_xor]

/-- The low five bits of a number of bits that is turned left by its negative. -/
theorem and31 (n : Int) (h0 : 1 ≤ n) (h1 : n ≤ 31) : bits .and .u64 (IntKind.u64.wrap (-n)) 31 = 32 - n := by
  rw [IntKind.wrap_u64, u64_and _ _ (by omega) (by omega) (by omega) (by omega)]
  have e : (31 : Int).toNat = 2 ^ 5 - 1 := rfl
  rw [e, Nat.and_two_pow_sub_one_eq_mod]
  omega
theorem shl32 (x : Wd) (k : IntKind) (n : Int) (h0 : 0 ≤ n) (h1 : n ≤ 31) : Op.shift .shl .u32 (u x) k n = pure (.int .u32 (u (sl x n.toNat))) := by
  rw [← wsl, shift_shl_u32 _ _ _ h0 (by omega), IntKind.wrap_u32']
theorem shr32 (x : Wd) (k : IntKind) (n : Int) (h0 : 0 ≤ n) (h1 : n ≤ 31) : Op.shift .shr .u32 (u x) k n = pure (.int .u32 (u (sr x n.toNat))) := by
  rw [← wsr, shift_shr_u32 _ _ _ h0 (by omega)]
theorem rr_comm (x : Wd) (n : Nat) : oo (sl x (32 - n)) (sr x n) = rr x n := by
  unfold rr oo
  rw [BitVec.or_comm]
end Go.Proofs.Ytohoieleakieeaa

/-! Rows of words and bytes in memory: a block that holds a list, whole. -/
namespace Go.Proofs.Ytohoieleakieeaa
open Go Go.RowKit

abbrev By := BitVec 8
/-- A byte as the number that memory holds. -/
def v8 (x : By) : Int := (x.toNat : Int)
theorem v8_nn (x : By) : 0 ≤ v8 x := by unfold v8; omega
theorem v8_le (x : By) : v8 x ≤ 255 := by have := x.isLt; unfold v8; omega
theorem v8_inj {x y : By} (h : v8 x = v8 y) : x = y := by unfold v8 at h; apply BitVec.eq_of_toNat_eq; omega

/-- The cells of words, of bytes, of numbers of 64 bits. -/
def ws (xs : List Wd) : Array Value := (xs.map fun x => Value.int .u32 (u x)).toArray
def bs (xs : List By) : Array Value := (xs.map fun x => Value.int .u8 (v8 x)).toArray
def ns (xs : List Nat) : Array Value := (xs.map fun (x : Nat) => Value.int .u64 (x : Int)).toArray
/-- The j-th. -/
def gw (xs : List Wd) (j : Nat) : Wd := xs[j]?.getD 0
def gb (xs : List By) (j : Nat) : By := xs[j]?.getD 0
def gn (xs : List Nat) (j : Nat) : Nat := xs[j]?.getD 0

theorem ws_size (xs : List Wd) : (ws xs).size = xs.length := by simp [ws]
theorem bs_size (xs : List By) : (bs xs).size = xs.length := by simp [bs]
theorem ns_size (xs : List Nat) : (ns xs).size = xs.length := by simp [ns]
theorem ws_one (xs : List Wd) : (ws xs).all (·.oneCell') = true := by simp [ws, Value.oneCell']
theorem bs_one (xs : List By) : (bs xs).all (·.oneCell') = true := by simp [bs, Value.oneCell']
theorem ns_one (xs : List Nat) : (ns xs).all (·.oneCell') = true := by simp [ns, Value.oneCell']
theorem ws_get (xs : List Wd) (j : Nat) (h : j < xs.length) : (ws xs)[j]? = some (.int .u32 (u (gw xs j))) := by simp [ws, gw, h]
theorem bs_get (xs : List By) (j : Nat) (h : j < xs.length) : (bs xs)[j]? = some (.int .u8 (v8 (gb xs j))) := by simp [bs, gb, h]
theorem ns_get (xs : List Nat) (j : Nat) (h : j < xs.length) : (ns xs)[j]? = some (.int .u64 (gn xs j : Int)) := by simp [ns, gn, h]
theorem ws_set (xs : List Wd) (j : Nat) (x : Wd) : (ws xs).setIfInBounds j (.int .u32 (u x)) = ws (xs.set j x) := by
  apply Array.ext'
  simp [ws, List.map_set]
theorem bs_set (xs : List By) (j : Nat) (x : By) : (bs xs).setIfInBounds j (.int .u8 (v8 x)) = bs (xs.set j x) := by
  apply Array.ext'
  simp [bs, List.map_set]
theorem ns_set (xs : List Nat) (j : Nat) (x : Nat) : (ns xs).setIfInBounds j (.int .u64 (x : Int)) = ns (xs.set j x) := by
  apply Array.ext'
  simp [ns, List.map_set]
theorem ws_inj {xs ys : List Wd} (h : ws xs = ws ys) : xs = ys := by
  unfold ws at h
  have h' := congrArg Array.toList h
  simp only at h'
  exact (List.map_inj_right (fun x y e => u_inj (by injection e))).1 h'
theorem bs_inj {xs ys : List By} (h : bs xs = bs ys) : xs = ys := by
  unfold bs at h
  have h' := congrArg Array.toList h
  simp only at h'
  exact (List.map_inj_right (fun x y e => v8_inj (by injection e))).1 h'

/-- The block g holds the cells cs, whole, and may be written. -/
def Row (w : World) (g : Nat) (t : TypeId) (cs : Array Value) : Prop := w.heap[g]? = some (.cells cs t (0, 0))

theorem Row.lt {w : World} {g : Nat} {t : TypeId} {cs : Array Value} (h : Row w g t cs) : g < w.heap.size := (Array.getElem?_eq_some_iff.1 h).1
theorem Row.cell {w : World} {g : Nat} {t : TypeId} {cs : Array Value} (h : Row w g t cs) (j : Nat) : w.cell? ⟨g, j, none⟩ = cs[j]? := cell_of_row w g j cs t (0, 0) h
theorem Row.cellW {w : World} {g : Nat} {t : TypeId} {xs : List Wd} (h : Row w g t (ws xs)) {j : Nat} (hj : j < xs.length) : w.cell? ⟨g, j, none⟩ = some (.int .u32 (u (gw xs j))) := (h.cell j).trans (ws_get xs j hj)
theorem Row.cellB {w : World} {g : Nat} {t : TypeId} {xs : List By} (h : Row w g t (bs xs)) {j : Nat} (hj : j < xs.length) : w.cell? ⟨g, j, none⟩ = some (.int .u8 (v8 (gb xs j))) := (h.cell j).trans (bs_get xs j hj)
theorem Row.cellN {w : World} {g : Nat} {t : TypeId} {xs : List Nat} (h : Row w g t (ns xs)) {j : Nat} (hj : j < xs.length) : w.cell? ⟨g, j, none⟩ = some (.int .u64 (gn xs j : Int)) := (h.cell j).trans (ns_get xs j hj)
theorem Row.frozen {w : World} {g : Nat} {t : TypeId} {cs : Array Value} (h : Row w g t cs) (j : Nat) : w.frozen? ⟨g, j, none⟩ = false := frozen_of_row w g j cs t h
theorem Row.new (w : World) (t : TypeId) (cs : Array Value) : Row (w.alloc (.cells cs t)) w.heap.size t cs := heap_alloc_new w _
theorem Row.alloc {w : World} {g : Nat} {t : TypeId} {cs : Array Value} (h : Row w g t cs) (o : Obj) : Row (w.alloc o) g t cs := (Below.heap_alloc w o g h.lt).trans h
theorem Row.drew {w : World} {g : Nat} {t : TypeId} {cs : Array Value} (h : Row w g t cs) : Row w.drew g t cs := h
theorem Row.set {w : World} {g : Nat} {t : TypeId} {cs : Array Value} (h : Row w g t cs) (j : Nat) (v : Value) : Row (w.setCell ⟨g, j, none⟩ v) g t (cs.setIfInBounds j v) := heap_setCell_same w g j cs t v h
theorem Row.other {w : World} {g : Nat} {t : TypeId} {cs : Array Value} (h : Row w g t cs) {a : Addr} (ha : g ≠ a.block) (v : Value) : Row (w.setCell a v) g t cs := (heap_setCell_other w a g v ha).trans h
theorem Row.below {w w' : World} {n g : Nat} {t : TypeId} {cs : Array Value} (h : Row w g t cs) (hb : Below n w w') (hg : g < n) : Row w' g t cs := (hb.block g hg).trans h
theorem Row.put {w : World} {g : Nat} {t : TypeId} {cs : Array Value} (h : Row w g t cs) (cs' : Array Value) : Row (w.setRow g cs') g t cs' := setRow_heap w g cs cs' t (0, 0) h
theorem Row.putOther {w : World} {g k : Nat} {t : TypeId} {cs : Array Value} (h : Row w g t cs) (hk : g ≠ k) (cs' : Array Value) : Row (w.setRow k cs') g t cs := (setRow_other w k g cs' hk).trans h

theorem bSetRow {B : Nat} {a w : World} (h : Below B a w) {g : Nat} (hg : B ≤ g) (cs : Array Value) : Below B a (w.setRow g cs) :=
  ⟨h.os, h.tape, h.output, by rw [setRow_size]; exact h.size, fun k hk => (setRow_other w g k cs (by omega)).trans (h.block k hk)⟩

theorem bcell {W w1 : World} (hb : Below W.heap.size W w1) : (∀ b o, b < W.heap.size → w1.cell? ⟨b, o, none⟩ = W.cell? ⟨b, o, none⟩) ∧ (∀ b o, b < W.heap.size → w1.frozen? ⟨b, o, none⟩ = W.frozen? ⟨b, o, none⟩) :=
  ⟨fun b o h => hb.cell (p := ⟨b, o, none⟩) h, fun b o h => hb.frozen (p := ⟨b, o, none⟩) h⟩
/-- Where a row lies that was made one, two, three blocks ago. -/
theorem Row.new1 (w : World) (o : Obj) (t : TypeId) (cs : Array Value) : Row ((w.alloc o).alloc (.cells cs t)) (w.heap.size + 1) t cs := by
  have := Row.new (w.alloc o) t cs
  rw [World.size_alloc] at this
  exact this
theorem Row.new2 (w : World) (o o' : Obj) (t : TypeId) (cs : Array Value) : Row (((w.alloc o).alloc o').alloc (.cells cs t)) (w.heap.size + 1 + 1) t cs := by
  have := Row.new1 (w.alloc o) o' t cs
  rw [World.size_alloc] at this
  exact this
theorem Row.new3 (w : World) (o o' o2 : Obj) (t : TypeId) (cs : Array Value) : Row ((((w.alloc o).alloc o').alloc o2).alloc (.cells cs t)) (w.heap.size + 1 + 1 + 1) t cs := by
  have := Row.new2 (w.alloc o) o' o2 t cs
  rw [World.size_alloc] at this
  exact this

/-- Eight cells, stored one behind the other. -/
def put8 (w : World) (g : Nat) (v0 v1 v2 v3 v4 v5 v6 v7 : Value) : World := ((((((((w.setCell ⟨g, 0, none⟩ v0).setCell ⟨g, 1, none⟩ v1).setCell ⟨g, 2, none⟩ v2).setCell ⟨g, 3, none⟩ v3).setCell ⟨g, 4, none⟩ v4).setCell ⟨g, 5, none⟩ v5).setCell ⟨g, 6, none⟩ v6).setCell ⟨g, 7, none⟩ v7)
theorem put8_row {w : World} {g : Nat} {t : TypeId} {cs : Array Value} (h : Row w g t cs) (h8 : cs.size = 8) (v0 v1 v2 v3 v4 v5 v6 v7 : Value) : Row (put8 w g v0 v1 v2 v3 v4 v5 v6 v7) g t #[v0, v1, v2, v3, v4, v5, v6, v7] := by
  have e : (((((((cs.setIfInBounds 0 v0).setIfInBounds 1 v1).setIfInBounds 2 v2).setIfInBounds 3 v3).setIfInBounds 4 v4).setIfInBounds 5 v5).setIfInBounds 6 v6).setIfInBounds 7 v7 = #[v0, v1, v2, v3, v4, v5, v6, v7] := by
    obtain ⟨l⟩ := cs
    match l, h8 with
    | [a, b, c, d, e, f, g, i], _ => simp
  rw [← e]
  exact (((((((h.set 0 v0).set 1 v1).set 2 v2).set 3 v3).set 4 v4).set 5 v5).set 6 v6).set 7 v7
theorem put8_other {w : World} {g g' : Nat} {t : TypeId} {cs : Array Value} (h : Row w g t cs) (hg : g ≠ g') (v0 v1 v2 v3 v4 v5 v6 v7 : Value) : Row (put8 w g' v0 v1 v2 v3 v4 v5 v6 v7) g t cs :=
  (((((((h.other hg v0).other hg v1).other hg v2).other hg v3).other hg v4).other hg v5).other hg v6).other hg v7
theorem put8_below {B : Nat} {a w : World} (h : Below B a w) {g : Nat} (hg : B ≤ g) (v0 v1 v2 v3 v4 v5 v6 v7 : Value) : Below B a (put8 w g v0 v1 v2 v3 v4 v5 v6 v7) :=
  (((((((h.setCell (p := ⟨g, 0, none⟩) hg v0).setCell (p := ⟨g, 1, none⟩) hg v1).setCell (p := ⟨g, 2, none⟩) hg v2).setCell (p := ⟨g, 3, none⟩) hg v3).setCell (p := ⟨g, 4, none⟩) hg v4).setCell (p := ⟨g, 5, none⟩) hg v5).setCell (p := ⟨g, 6, none⟩) hg v6).setCell (p := ⟨g, 7, none⟩) hg v7

section
variable {P : Program}
/-- A whole array is loaded. -/
theorem load_row {ops : Array Oper} {rest : List Oper} {o : Oper} {a : Act} {w : World} {Q : Exit → Act → World → Prop} (hgd : o.guard = none) (ty : TypeId) (x : Operand) (ho : o.op = .load ty x)
    (g : Nat) (hx : a.eval x = .pointer (some ⟨g, 0, none⟩)) (t : TypeId) (cs : Array Value) (hg : Row w g t cs) (n : Nat) (e : TypeId)
    (hu : P.underlying ty = some (.array n e)) (hi : (P.info? ty).map (·.size) = some n) (hc : cs.size = n)
    (h : wpList P ops Q rest (a.put o.dst (.agg cs)) w) : wpList P ops Q (o :: rest) a w :=
  wpList_load_row hgd ty x ho g hx t cs (0, 0) _ hg hu rfl (by rw [hc]; exact hi) h

/-- An element of an array that is a value. -/
theorem run_index (t e : TypeId) (n : Nat) (d : TypeDesc) (cs : Array Value) (k : Nat) (v : Value) (hu : P.underlying t = some (.array n e)) (he : P.underlying e = some d) (hd : (match d with | .struct _ | .array _ _ => true | _ => false) = false)
    (hi : (P.info? e).map (·.size) = some 1) (hk : k < n) (hv : cs[k]? = some v) (w : World) : (Instr.index t (.agg cs) (.int .i64 (k : Int))).run P w = .ok v w := by
  have hsz : (sizeOf e).run P w = .ok 1 w := by
    cases hq : P.info? e with
    | none => simp [hq] at hi
    | some i =>
      have : i.size = 1 := by simpa [hq] using hi
      simp [sizeOf, typeInfo, hq, this]
  have hag : (isAgg e).run P w = .ok false w := by
    unfold isAgg
    rw [Sem.run_bind, run_underlying he w]
    cases d <;> simp_all
  simp [Instr.index, asIntOf, run_underlying hu, hk, hsz, part, hag, hv]

theorem wp_store_row {op : Oper} {a : Act} {w : World} {K : Act → World → Prop} {Q : Exit → Act → World → Prop} (ty : TypeId) (x y : Operand) (ho : op.op = .store ty x y)
    (g : Nat) (cs : Array Value) (hx : a.eval x = .pointer (some ⟨g, 0, none⟩)) (hy : a.eval y = .agg cs) (t : TypeId) (old : Array Value) (hg : Row w g t old)
    (hi : (P.info? ty).map (·.size) = some cs.size) (hs : old.size = cs.size) (h1 : cs.all (·.oneCell') = true)
    (h : K (a.put op.dst undef) (w.setRow g cs)) : op.wp P a w K Q := by
  unfold Oper.wp execOp
  simp only [ho, hx, hy, Instr.storeAt, Instr.sureAddr, Sem.run_bind, Sem.run_pure, Result.andThen_ok, run_storeVar_row w g t ty old cs hg hi hs h1]
  exact h

/-- A whole array is stored. -/
theorem store_row {ops : Array Oper} {rest : List Oper} {op : Oper} {a : Act} {w : World} {Q : Exit → Act → World → Prop} (hgd : op.guard = none) (ty : TypeId) (x y : Operand) (ho : op.op = .store ty x y)
    (g : Nat) (cs : Array Value) (hx : a.eval x = .pointer (some ⟨g, 0, none⟩)) (hy : a.eval y = .agg cs) (t : TypeId) (old : Array Value) (hg : Row w g t old)
    (n : Nat) (hi : (P.info? ty).map (·.size) = some n) (hs : old.size = n) (hc : cs.size = n) (h1 : cs.all (·.oneCell') = true)
    (h : wpList P ops Q rest (a.put op.dst undef) (w.setRow g cs)) : wpList P ops Q (op :: rest) a w :=
  wpList_plain hgd fun _ hK => wp_store_row ty x y ho g cs hx hy t old hg (by rw [hc]; exact hi) (by omega) h1 (hK _ _ h)

/-- A whole array is built. -/
theorem build_row {ops : Array Oper} {rest : List Oper} {o : Oper} {a : Act} {w : World} {Q : Exit → Act → World → Prop} (hgd : o.guard = none) (t : TypeId) (parts : Array (Nat × Operand)) (ho : o.op = .build t parts)
    (cs : Array Value) (hb : P.built t (parts.map fun (i, x) => (i, a.eval x)).toList = some cs) (h : wpList P ops Q rest (a.put o.dst (.agg cs)) w) : wpList P ops Q (o :: rest) a w :=
  wpList_plain hgd fun _ hK => wp_build t parts ho (by rw [hb]; rfl) (by rw [hb]; exact hK _ _ h)

/-- A whole array is stored into the block that was made last. -/
theorem store_new {ops : Array Oper} {rest : List Oper} {op : Oper} {a : Act} {w : World} {Q : Exit → Act → World → Prop} (hgd : op.guard = none) (ty : TypeId) (x y : Operand) (ho : op.op = .store ty x y)
    (g : Nat) (cs : Array Value) (hx : a.eval x = .pointer (some ⟨g, 0, none⟩)) (hy : a.eval y = .agg cs) (t : TypeId) (old : Array Value) (hg : w.heap.size = g)
    (n : Nat) (hi : (P.info? ty).map (·.size) = some n) (hs : old.size = n) (hc : cs.size = n) (h1 : cs.all (·.oneCell') = true)
    (h : wpList P ops Q rest (a.put op.dst undef) (w.alloc (.cells cs t))) : wpList P ops Q (op :: rest) a (w.alloc (.cells old t)) := by
  subst hg
  refine store_row hgd ty x y ho w.heap.size cs hx hy t old (Row.new _ _ _) n hi hs hc h1 ?_
  rw [World.setRow_alloc_new]
  exact h

/-- A whole array is handed back. -/
theorem result_row {fn : Func} {p : Tmp} {ty : TypeId} (h : fn.results = #[.cell p ty]) (tmps : Array Value) (w : World) (g : Nat) (t : TypeId) (cs : Array Value) (hg : Row w g t cs) (n : Nat) (e : TypeId)
    (hp : tmps.getD p undef = .pointer (some ⟨g, 0, none⟩)) (hu : P.underlying ty = some (.array n e)) (hi : (P.info? ty).map (·.size) = some n) (hc : cs.size = n) :
    (results fn tmps).run P w = .ok (.agg cs) w :=
  results_cell_row h tmps w g t cs (0, 0) _ hp hg hu rfl (by rw [hc]; exact hi)

/-- A whole array is handed back, with a second result. -/
theorem result_row_tmp {fn : Func} {p q : Tmp} {ty : TypeId} (h : fn.results = #[.cell p ty, .tmp q]) (tmps : Array Value) (w : World) (g : Nat) (t : TypeId) (cs : Array Value) (hg : Row w g t cs) (n : Nat) (e : TypeId) (v : Value)
    (hp : tmps.getD p undef = .pointer (some ⟨g, 0, none⟩)) (hq : tmps.getD q undef = v) (hu : P.underlying ty = some (.array n e)) (hi : (P.info? ty).map (·.size) = some n) (hc : cs.size = n) :
    (results fn tmps).run P w = .ok (.tuple #[.agg cs, v]) w := by
  rw [results_cell_tmp h, hp, hq]
  simp [asAddr, Result.andThen, run_loadVar_row w g t ty cs (0, 0) _ hg hu rfl (by rw [hc]; exact hi)]
end
theorem add_at (g o j : Nat) : (⟨g, o, none⟩ : Addr).add j = ⟨g, o + j, none⟩ := by
  unfold Addr.add
  split
  · rename_i h; rw [h]; rfl
  · rfl
/-- The cells of bytes. -/
def bl (x : List By) : List Value := x.map fun x => Value.int .u8 (v8 x)
def z32 : List By := List.replicate 32 0
end Go.Proofs.Ytohoieleakieeaa

/-! SHA-256 on lists of words and bytes: no program in sight. -/
namespace Go.Proofs.Ytohoieleakieeaa
open Go

/-- The bytes of a word, the highest first. -/
def byteOf (x : Wd) (j : Nat) : By := (sr x (24 - 8 * j)).setWidth 8
theorem v8_byteOf (x : Wd) (j : Nat) : u (sr x (24 - 8 * j)) % 256 = v8 (byteOf x j) := by
  unfold u v8 byteOf
  rw [BitVec.toNat_setWidth]
  omega
/-- The bytes of words. -/
def sumB (s : List Wd) : List By := (List.range 32).map fun i => byteOf (gw s (i / 4)) (i % 4)
theorem sumB_length (s : List Wd) : (sumB s).length = 32 := by simp [sumB]
theorem sumB_get (s : List Wd) (i : Nat) (h : i < 32) : (sumB s)[i]? = some (byteOf (gw s (i / 4)) (i % 4)) := by simp [sumB, h]

/-- One by one: what has come, and nothing yet behind it. -/
theorem fill_set {α : Type} (l : List α) (z : α) (k n : Nat) (hl : l.length = n) (hk : k < n) (x : α) (hx : l[k]? = some x) :
    (l.take k ++ List.replicate (n - k) z).set k x = l.take (k + 1) ++ List.replicate (n - (k + 1)) z := by
  have hx' : l[k]'(by omega) = x := by
    rw [List.getElem?_eq_getElem (by omega)] at hx
    exact Option.some.inj hx
  rw [List.set_append_right k x (by simp; omega), List.take_succ_eq_append_getElem (by omega), hx']
  have e : n - k = (n - (k + 1)) + 1 := by omega
  simp only [List.length_take, show min k l.length = k by omega, Nat.sub_self, e, List.replicate_succ, List.set_cons_zero, List.append_assoc, List.singleton_append]

/-- The bits of f where e's are set, else those of g; those that at least two of a, b, c have. -/
def ch (e f g : Wd) : Wd := xr (an e f) (an (nt e) g)
def maj (a b c : Wd) : Wd := xr (xr (an a b) (an a c)) (an b c)
theorem ch_or (e f g : Wd) : oo (an e f) (an (nt e) g) = ch e f g := by
  unfold ch oo an nt xr
  apply BitVec.eq_of_getElem_eq
  intro i hi
  simp only [BitVec.getElem_or, BitVec.getElem_and, BitVec.getElem_not, BitVec.getElem_xor]
  cases e[i] <;> cases f[i] <;> cases g[i] <;> rfl
theorem maj_or (a b c : Wd) : oo (oo (an a b) (an a c)) (an b c) = maj a b c := by
  unfold maj oo an xr
  apply BitVec.eq_of_getElem_eq
  intro i hi
  simp only [BitVec.getElem_or, BitVec.getElem_and, BitVec.getElem_xor]
  cases a[i] <;> cases b[i] <;> cases c[i] <;> rfl
/-- Three taken against one another. -/
def S1 (e : Wd) : Wd := xr (xr (rr e 6) (rr e 11)) (rr e 25)
def S0 (a : Wd) : Wd := xr (xr (rr a 2) (rr a 13)) (rr a 22)
def s1 (x : Wd) : Wd := xr (xr (rr x 17) (rr x 19)) (sr x 10)
def s0 (y : Wd) : Wd := xr (xr (rr y 7) (rr y 18)) (sr y 3)
def T1 (e f g h kw : Wd) : Wd := ad (ad (ad h (S1 e)) (ch e f g)) kw
def T2 (a b c : Wd) : Wd := ad (S0 a) (maj a b c)
/-- One of the 64 turns. -/
def turnL (s : List Wd) (kw : Wd) : List Wd :=
  [ad (T1 (gw s 4) (gw s 5) (gw s 6) (gw s 7) kw) (T2 (gw s 0) (gw s 1) (gw s 2)), gw s 0, gw s 1, gw s 2, ad (gw s 3) (T1 (gw s 4) (gw s 5) (gw s 6) (gw s 7) kw), gw s 4, gw s 5, gw s 6]
theorem turnL_length (s : List Wd) (kw : Wd) : (turnL s kw).length = 8 := rfl
theorem eight {α : Type} {s : List α} (h : s.length = 8) : ∃ a b c d e f g i, s = [a, b, c, d, e, f, g, i] := by
  match s, h with
  | [a, b, c, d, e, f, g, i], _ => exact ⟨a, b, c, d, e, f, g, i, rfl⟩
end Go.Proofs.Ytohoieleakieeaa

/-! The words of a block, on lists: no program in sight. -/
namespace Go.Proofs.Ytohoieleakieeaa
open Go

/-- A byte as a word. -/
def ex (b : By) : Wd := b.setWidth 32
theorem v8_ex (b : By) : v8 b = u (ex b) := by
  have := b.isLt
  unfold v8 u ex
  rw [BitVec.toNat_setWidth]
  omega

/-- The word that bytes make, the highest first. -/
def wordUp (l : List By) : Wd := l.foldl (fun w c => oo (sl w 8) (ex c)) 0
theorem wordUp_snoc (l : List By) (c : By) : wordUp (l ++ [c]) = oo (sl (wordUp l) 8) (ex c) := by simp [wordUp]

/-- The words when i bytes have come. -/
def parts (b : List By) (i : Nat) : List Wd := (List.range 64).map fun q => wordUp ((b.drop (4 * q)).take (min 4 (i - 4 * q)))
theorem parts_length (b : List By) (i : Nat) : (parts b i).length = 64 := by simp [parts]
theorem parts_get (b : List By) (i q : Nat) (h : q < 64) : gw (parts b i) q = wordUp ((b.drop (4 * q)).take (min 4 (i - 4 * q))) := by simp [gw, parts, h]
theorem parts_zero (b : List By) : parts b 0 = List.replicate 64 0 := by
  apply List.ext_getElem
  · simp [parts]
  · intro j h1 h2
    rw [List.getElem_replicate]
    simp only [parts, List.getElem_map, Nat.zero_sub, Nat.min_zero, List.take_zero]
    rfl
theorem parts_step (b : List By) (i : Nat) (hb : b.length = 64) (hi : i < 64) : (parts b i).set (i / 4) (oo (sl (gw (parts b i) (i / 4)) 8) (ex (gb b i))) = parts b (i + 1) := by
  rw [parts_get b i (i / 4) (by omega)]
  apply List.ext_getElem
  · simp [parts]
  · intro j h1 h2
    rw [List.getElem_set]
    split
    · rename_i h
      subst h
      simp only [parts, List.getElem_map, List.getElem_range]
      have e1 : min 4 (i - 4 * (i / 4)) = i - 4 * (i / 4) := by omega
      have e2 : min 4 (i + 1 - 4 * (i / 4)) = i - 4 * (i / 4) + 1 := by omega
      rw [e1, e2, List.take_succ_eq_append_getElem (by simp; omega), wordUp_snoc]
      congr 2
      simp only [List.getElem_drop, gb]
      have aux : ∀ (k : Nat) (hk : k < b.length), k = i → b[i]?.getD 0 = b[k] := fun k hk e => by subst e; simp [hk]
      exact aux _ _ (by omega)
    · rename_i h
      simp only [parts, List.getElem_map, List.getElem_range]
      rw [show min 4 (i + 1 - 4 * j) = min 4 (i - 4 * j) by omega]

def first16 (b : List By) : List Wd := (List.range 16).map fun q => wordUp ((b.drop (4 * q)).take 4)
theorem first16_length (b : List By) : (first16 b).length = 16 := by simp [first16]
theorem parts_all (b : List By) : parts b 64 = first16 b ++ List.replicate 48 0 := by
  apply List.ext_getElem
  · simp [parts, first16]
  · intro j h1 h2
    have hj : j < 64 := by simpa [parts] using h1
    simp only [parts, List.getElem_map, List.getElem_range, List.getElem_append, first16_length]
    split
    · rename_i h
      simp only [first16, List.getElem_map, List.getElem_range]
      rw [show min 4 (64 - 4 * j) = 4 by omega]
    · rename_i h
      rw [show min 4 (64 - 4 * j) = 0 by omega, List.getElem_replicate, List.take_zero]
      rfl

/-- The word behind words. -/
def nextW (l : List Wd) : Wd := ad (ad (ad (s1 (gw l (l.length - 2))) (gw l (l.length - 7))) (s0 (gw l (l.length - 15)))) (gw l (l.length - 16))
def schedN (b : List By) : Nat → List Wd
  | 0 => first16 b
  | n + 1 => schedN b n ++ [nextW (schedN b n)]
theorem schedN_length (b : List By) : ∀ n, (schedN b n).length = 16 + n
  | 0 => first16_length b
  | n + 1 => by rw [schedN, List.length_append, schedN_length b n]; rfl
def sched (b : List By) : List Wd := schedN b 48
theorem sched_length (b : List By) : (sched b).length = 64 := schedN_length b 48
/-- The row while its words are reckoned. -/
def schedR (b : List By) (n : Nat) : List Wd := schedN b n ++ List.replicate (48 - n) 0
theorem schedR_length (b : List By) (n : Nat) (h : n ≤ 48) : (schedR b n).length = 64 := by simp [schedR, schedN_length]; omega
theorem schedR_get (b : List By) (n j : Nat) (h : j < 16 + n) : gw (schedR b n) j = gw (schedN b n) j := by
  unfold gw schedR
  rw [List.getElem?_append_left (by rw [schedN_length]; exact h)]
theorem schedR_step (b : List By) (n : Nat) (h : n < 48) : (schedR b n).set (16 + n) (ad (ad (ad (s1 (gw (schedR b n) (16 + n - 2))) (gw (schedR b n) (16 + n - 7))) (s0 (gw (schedR b n) (16 + n - 15)))) (gw (schedR b n) (16 + n - 16))) = schedR b (n + 1) := by
  rw [schedR_get b n _ (by omega), schedR_get b n _ (by omega), schedR_get b n _ (by omega), schedR_get b n _ (by omega)]
  have e : nextW (schedN b n) = ad (ad (ad (s1 (gw (schedN b n) (16 + n - 2))) (gw (schedN b n) (16 + n - 7))) (s0 (gw (schedN b n) (16 + n - 15)))) (gw (schedN b n) (16 + n - 16)) := by
    unfold nextW; rw [schedN_length]
  rw [← e]
  unfold schedR
  rw [List.set_append_right _ _ (by rw [schedN_length]; omega), schedN_length, show 48 - n = (48 - (n + 1)) + 1 by omega, List.replicate_succ, Nat.sub_self, List.set_cons_zero, schedN, List.append_assoc]
  rfl
theorem schedR_all (b : List By) : schedR b 48 = sched b := by simp [schedR, sched]
theorem schedR_zero (b : List By) : schedR b 0 = parts b 64 := by rw [parts_all]; rfl
end Go.Proofs.Ytohoieleakieeaa

/-! A state, a block further, on lists: no program in sight. -/
namespace Go.Proofs.Ytohoieleakieeaa
open Go

/-- The words a to h behind t turns. -/
def roundsTo (s k w : List Wd) : Nat → List Wd
  | 0 => s
  | t + 1 => turnL (roundsTo s k w t) (ad (gw k t) (gw w t))
theorem roundsTo_length (s k w : List Wd) (hs : s.length = 8) : ∀ t, (roundsTo s k w t).length = 8
  | 0 => hs
  | _ + 1 => rfl
/-- Each with what the other has, added. -/
def sumS (s n : List Wd) : List Wd := (List.range 8).map fun i => ad (gw s i) (gw n i)
theorem sumS_length (s n : List Wd) : (sumS s n).length = 8 := by simp [sumS]
theorem sumS_get (s n : List Wd) (i : Nat) (h : i < 8) : (sumS s n)[i]? = some (ad (gw s i) (gw n i)) := by simp [sumS, h]
theorem ad_comm (a b : Wd) : ad a b = ad b a := by unfold ad; exact BitVec.add_comm a b
theorem ad_assoc (a b c : Wd) : ad (ad a b) c = ad a (ad b c) := by unfold ad; exact BitVec.add_assoc a b c
/-- A state, a block further, by the words K. -/
def furtherL (s k : List Wd) (b : List By) : List Wd := sumS s (roundsTo s k (sched b) 64)
theorem furtherL_length (s k : List Wd) (b : List By) : (furtherL s k b).length = 8 := sumS_length _ _

/-- One by one: what has come, and behind it what was. -/
def mix {α : Type} (l r : List α) (i : Nat) : List α := l.take i ++ r.drop i
theorem mix_length {α : Type} (l r : List α) (i n : Nat) (hl : l.length = n) (hr : r.length = n) (hi : i ≤ n) : (mix l r i).length = n := by simp [mix, hl, hr]; omega
theorem mix_zero {α : Type} (l r : List α) : mix l r 0 = r := by simp [mix]
theorem mix_all {α : Type} (l r : List α) (n : Nat) (hl : l.length = n) (hr : r.length = n) : mix l r n = l := by
  unfold mix
  rw [List.take_of_length_le (by omega), List.drop_of_length_le (by omega), List.append_nil]
theorem mix_get {α : Type} (l r : List α) (i n : Nat) (hl : l.length = n) (hi : i < n) : (mix l r i)[i]? = r[i]? := by
  unfold mix
  rw [List.getElem?_append_right (by simp; omega), List.length_take, show min i l.length = i by omega, Nat.sub_self, List.getElem?_drop, Nat.add_zero]
theorem mix_set {α : Type} (l r : List α) (i n : Nat) (hl : l.length = n) (hr : r.length = n) (hi : i < n) (x : α) (hx : l[i]? = some x) : (mix l r i).set i x = mix l r (i + 1) := by
  have hx' : l[i]'(by omega) = x := by
    rw [List.getElem?_eq_getElem (by omega)] at hx
    exact Option.some.inj hx
  unfold mix
  rw [List.set_append_right i x (by simp; omega), List.take_succ_eq_append_getElem (by omega), hx', List.length_take, show min i l.length = i by omega, Nat.sub_self, List.drop_eq_getElem_cons (show i < r.length by omega), List.set_cons_zero, List.append_assoc]
  rfl
theorem gw_mix (l r : List Wd) (i n : Nat) (hl : l.length = n) (hi : i < n) : gw (mix l r i) i = gw r i := by unfold gw; rw [mix_get l r i n hl hi]
end Go.Proofs.Ytohoieleakieeaa

/-! The first 64 primes, their roots, and how they are found: no program in sight. -/
namespace Go.Proofs.Ytohoieleakieeaa
open Go

def P64 : List Nat := [2, 3, 5, 7, 11, 13, 17, 19, 23, 29, 31, 37, 41, 43, 47, 53, 59, 61, 67, 71, 73, 79, 83, 89, 97, 101, 103, 107, 109, 113, 127, 131, 137, 139, 149, 151, 157, 163, 167, 173, 179, 181, 191, 193, 197, 199, 211, 223, 227, 229, 233, 239, 241, 251, 257, 263, 269, 271, 277, 281, 283, 293, 307, 311]
def cubeRoots : List Nat := [5411319704, 6194414737, 7344290767, 8215976869, 9551921755, 10098905585, 11043570340, 11460697813, 12214315672, 13195500289, 13492127166, 14311783875, 14809980276, 15046980094, 15499789991, 16133124468, 16720292289, 16907126662, 17444216262, 17784676812, 17950125167, 18429019306, 18734950876, 19175934170, 19734090066, 20001703533, 20132865992, 20390182855, 20516441075, 20764397895, 21588763473, 21813078375, 22141143685, 22248366392, 22769593852, 22871018771, 23170020180, 23461497531, 23651862830, 23931792517, 24205322401, 24295138891, 24734567280, 24820601251, 24990902297, 25075189284, 25569408389, 26045227120, 26200031510, 26276752392, 26428864332, 26653801653, 26727943347, 27092625994, 27306805839, 27517677555, 27725365998, 27793908591, 27997534228, 28131656200, 28198240250, 28526537963, 28973835255, 29099129074]
def squareRoots : List Nat := [6074000999, 7439101573, 9603838834, 11363415354, 14244795007, 15485724812, 17708603819, 18721328409]
/-- The words K and H. -/
def KW : List Wd := [1116352408, 1899447441, 3049323471, 3921009573, 961987163, 1508970993, 2453635748, 2870763221, 3624381080, 310598401, 607225278, 1426881987, 1925078388, 2162078206, 2614888103, 3248222580, 3835390401, 4022224774, 264347078, 604807628, 770255983, 1249150122, 1555081692, 1996064986, 2554220882, 2821834349, 2952996808, 3210313671, 3336571891, 3584528711, 113926993, 338241895, 666307205, 773529912, 1294757372, 1396182291, 1695183700, 1986661051, 2177026350, 2456956037, 2730485921, 2820302411, 3259730800, 3345764771, 3516065817, 3600352804, 4094571909, 275423344, 430227734, 506948616, 659060556, 883997877, 958139571, 1322822218, 1537002063, 1747873779, 1955562222, 2024104815, 2227730452, 2361852424, 2428436474, 2756734187, 3204031479, 3329325298]
def HW : List Wd := [1779033703, 3144134277, 1013904242, 2773480762, 1359893119, 2600822924, 528734635, 1541459225]
theorem P64_length : P64.length = 64 := by decide +kernel
theorem KW_length : KW.length = 64 := by decide +kernel
theorem HW_length : HW.length = 8 := by decide +kernel

/-- How many primes lie below n. -/
def cntB (n : Nat) : Nat := (P64.filter fun p => decide (p < n)).length
/-- Does one of them divide n? -/
def comp (n : Nat) : Bool := (List.range (cntB n)).any fun j => n % gn P64 j == 0
theorem cntB_all : ∀ n, n < 313 → 2 ≤ n → cntB n ≤ 64 ∧ (n = 312 ↔ cntB n = 64) := by decide +kernel
theorem comp_all : ∀ n, n < 312 → 2 ≤ n → (comp n = true → cntB (n + 1) = cntB n) ∧ (comp n = false → cntB (n + 1) = cntB n + 1 ∧ P64[cntB n]? = some n) := by decide +kernel
theorem P64_bd : ∀ j, j < 64 → 2 ≤ gn P64 j ∧ gn P64 j ≤ 311 := by decide +kernel
theorem P64_bd8 : ∀ j, j < 8 → 2 ≤ gn P64 j ∧ gn P64 j ≤ 19 := by decide +kernel
theorem comp_yes (n j : Nat) (hj : j < cntB n) (h : n % gn P64 j = 0) : comp n = true := by
  unfold comp
  rw [List.any_eq_true]
  exact ⟨j, List.mem_range.2 hj, by simp [h]⟩
theorem comp_no (n : Nat) (h : ∀ j, j < cntB n → n % gn P64 j ≠ 0) : comp n = false := by
  unfold comp
  rw [List.any_eq_false]
  intro j hj
  simp [h j (List.mem_range.1 hj)]

/-- The row while primes are looked for. -/
def foundR (c : Nat) : List Nat := P64.take c ++ List.replicate (64 - c) 0
theorem foundR_length (c : Nat) (h : c ≤ 64) : (foundR c).length = 64 := by simp [foundR, P64_length]; omega
theorem foundR_get (c j : Nat) (hc : c ≤ 64) (h : j < c) : gn (foundR c) j = gn P64 j := by
  unfold gn foundR
  rw [List.getElem?_append_left (by rw [List.length_take, P64_length]; omega), List.getElem?_take, if_pos h]
theorem foundR_set (c n : Nat) (hc : c < 64) (h : P64[c]? = some n) : (foundR c).set c n = foundR (c + 1) := fill_set P64 0 c 64 P64_length hc n h
theorem foundR_all : foundR 64 = P64 := by
  unfold foundR
  rw [List.take_of_length_le (by rw [P64_length]; exact Nat.le_refl _)]
  simp

theorem cubeRoots_ok : ∀ j, j < 64 → gn P64 j * 79228162514264337593543950336 < (gn cubeRoots j + 1) * (gn cubeRoots j + 1) * (gn cubeRoots j + 1) ∧ gn cubeRoots j * gn cubeRoots j * gn cubeRoots j ≤ gn P64 j * 79228162514264337593543950336 ∧ gw KW j = BitVec.ofNat 32 (gn cubeRoots j) := by decide +kernel
theorem squareRoots_ok : ∀ j, j < 8 → gn P64 j * 18446744073709551616 < (gn squareRoots j + 1) * (gn squareRoots j + 1) ∧ gn squareRoots j * gn squareRoots j ≤ gn P64 j * 18446744073709551616 ∧ gw HW j = BitVec.ofNat 32 (gn squareRoots j) := by decide +kernel

theorem mono3 {a b : Nat} (h : a ≤ b) : a * a * a ≤ b * b * b := Nat.mul_le_mul (Nat.mul_le_mul h h) h
theorem cube_root_one (j r : Nat) (hj : j < 64) (h1 : r * r * r ≤ gn P64 j * 79228162514264337593543950336) (h2 : gn P64 j * 79228162514264337593543950336 < (r + 1) * (r + 1) * (r + 1)) : r = gn cubeRoots j := by
  obtain ⟨k2, k1, _⟩ := cubeRoots_ok j hj
  rcases Nat.lt_trichotomy r (gn cubeRoots j) with h | h | h
  · have := mono3 (show r + 1 ≤ gn cubeRoots j by omega); omega
  · exact h
  · have := mono3 (show gn cubeRoots j + 1 ≤ r by omega); omega
theorem square_root_one (j r : Nat) (hj : j < 8) (h1 : r * r ≤ gn P64 j * 18446744073709551616) (h2 : gn P64 j * 18446744073709551616 < (r + 1) * (r + 1)) : r = gn squareRoots j := by
  obtain ⟨k2, k1, _⟩ := squareRoots_ok j hj
  rcases Nat.lt_trichotomy r (gn squareRoots j) with h | h | h
  · have := Nat.mul_le_mul (show r + 1 ≤ gn squareRoots j by omega) (show r + 1 ≤ gn squareRoots j by omega); omega
  · exact h
  · have := Nat.mul_le_mul (show gn squareRoots j + 1 ≤ r by omega) (show gn squareRoots j + 1 ≤ r by omega); omega
end Go.Proofs.Ytohoieleakieeaa

/-! The blocks of bytes, on lists: no program in sight. -/
namespace Go.Proofs.Ytohoieleakieeaa
open Go

/-- 64 bytes. -/
abbrev Blk := { x : List By // x.length = 64 }
/-- The first 64 of bytes. -/
def mkBlk (l : List By) : Blk := ⟨(l ++ List.replicate 64 0).take 64, by simp⟩
theorem mkBlk_ge (l : List By) (h : 64 ≤ l.length) : (mkBlk l).1 = l.take 64 := by
  show (l ++ List.replicate 64 0).take 64 = l.take 64
  rw [List.take_append_of_le_length h]
theorem mkBlk_eq (l : List By) (h : l.length = 64) : (mkBlk l).1 = l := by rw [mkBlk_ge l (by omega), List.take_of_length_le (by omega)]

/-- How many bytes 00 stand behind the byte 80. -/
def padZ (n : Nat) : Nat := (119 - n % 64) % 64
theorem padZ_le (n : Nat) : padZ n ≤ 63 := by unfold padZ; omega
theorem padZ_mod (n : Nat) : (n + 1 + padZ n) % 64 = 56 := by unfold padZ; omega
/-- How many bits there are, as eight bytes. -/
def lenB (n : Nat) : List By := (List.range 8).map fun j => BitVec.ofNat 8 (8 * n / 2 ^ (8 * (7 - j)))
theorem lenB_length (n : Nat) : (lenB n).length = 8 := by simp [lenB]
theorem lenB_get (n j : Nat) (h : j < 8) : (lenB n)[j]? = some (BitVec.ofNat 8 (8 * n / 2 ^ (8 * (7 - j)))) := by simp [lenB, h]
/-- The bytes of the blocks. -/
def padL (b : List By) : List By := b ++ (128 :: (List.replicate (padZ b.length) 0 ++ lenB b.length))
theorem padL_length (b : List By) : (padL b).length = b.length + padZ b.length + 9 := by
  unfold padL
  rw [List.length_append, List.length_cons, List.length_append, List.length_replicate, lenB_length]
  omega
/-- How many blocks. -/
def nb (b : List By) : Nat := (b.length + padZ b.length + 9) / 64
theorem nb_mul (b : List By) : 64 * nb b = (padL b).length := by
  have := padZ_mod b.length
  rw [padL_length]
  unfold nb
  omega
/-- The blocks. -/
def blkAt (b : List By) (i : Nat) : Blk := mkBlk ((padL b).drop (64 * i))
def blkTo (b : List By) (k : Nat) : List Blk := (List.range k).map (blkAt b)
theorem blkTo_succ (b : List By) (k : Nat) : blkTo b (k + 1) = blkTo b k ++ [blkAt b k] := by unfold blkTo; rw [List.range_succ]; simp
theorem blkTo_length (b : List By) (k : Nat) : (blkTo b k).length = k := by simp [blkTo]
theorem blkAt_take (b : List By) (i : Nat) (h : i < nb b) : (blkAt b i).1 = ((padL b).drop (64 * i)).take 64 := by
  unfold blkAt
  exact mkBlk_ge _ (by rw [List.length_drop, ← nb_mul]; omega)
/-- A block within the bytes. -/
theorem blkAt_full (b : List By) (i : Nat) (h : 64 * i + 64 ≤ b.length) : (blkAt b i).1 = (b.drop (64 * i)).take 64 := by
  have hn : i < nb b := by unfold nb; omega
  rw [blkAt_take b i hn]
  unfold padL
  rw [List.drop_append_of_le_length (by omega), List.take_append_of_le_length (by rw [List.length_drop]; omega)]
theorem nb_small (b : List By) (h : b.length % 64 + 9 ≤ 64) : nb b = b.length / 64 + 1 := by unfold nb padZ; omega
theorem nb_great (b : List By) (h : 64 < b.length % 64 + 9) : nb b = b.length / 64 + 2 := by unfold nb padZ; omega
/-- The last block, where what is left and the length fit into one. -/
theorem blkAt_small (b : List By) (h : b.length % 64 + 9 ≤ 64) : (blkAt b (b.length / 64)).1 = b.drop (64 * (b.length / 64)) ++ (128 :: (List.replicate (55 - b.length % 64) 0 ++ lenB b.length)) := by
  rw [blkAt_take b _ (by rw [nb_small b h]; omega)]
  unfold padL
  have e : padZ b.length = 55 - b.length % 64 := by unfold padZ; omega
  rw [List.drop_append_of_le_length (by omega), e, List.take_of_length_le]
  simp only [List.length_append, List.length_drop, List.length_cons, List.length_replicate, lenB_length]
  omega
theorem blkAt_great (b : List By) (h : 64 < b.length % 64 + 9) : (blkAt b (b.length / 64)).1 = b.drop (64 * (b.length / 64)) ++ (128 :: List.replicate (63 - b.length % 64) 0) ∧ (blkAt b (b.length / 64 + 1)).1 = List.replicate 56 0 ++ lenB b.length := by
  have hn := nb_great b h
  have e : padZ b.length = (63 - b.length % 64) + 56 := by unfold padZ; omega
  have e2 : padL b = (b ++ (128 :: List.replicate (63 - b.length % 64) 0)) ++ (List.replicate 56 0 ++ lenB b.length) := by
    unfold padL
    rw [e, ← List.replicate_append_replicate]
    simp only [List.append_assoc, List.cons_append]
  have hl : (b ++ (128 :: List.replicate (63 - b.length % 64) 0)).length = 64 * (b.length / 64 + 1) := by
    simp only [List.length_append, List.length_cons, List.length_replicate]
    omega
  constructor
  · rw [blkAt_take b _ (by omega), e2, List.drop_append_of_le_length (by omega), List.take_append_of_le_length (by rw [List.length_drop, hl]; omega), List.take_of_length_le (by rw [List.length_drop, hl]; omega), List.drop_append_of_le_length (by omega)]
  · rw [blkAt_take b _ (by omega), e2, ← hl, List.drop_left, List.take_of_length_le (by simp [lenB_length])]

/-- The length goes into the last eight of 64 bytes, the lowest first. -/
def lenSet (l : List By) (n : Nat) : Nat → List By
  | 0 => l
  | k + 1 => (lenSet l n k).set (63 - k) (BitVec.ofNat 8 (8 * n / 2 ^ (8 * k)))
theorem lenSet_length (l : List By) (n k : Nat) : (lenSet l n k).length = l.length := by
  induction k with
  | zero => rfl
  | succ k ih => rw [lenSet, List.length_set, ih]
theorem lenSet_get (l : List By) (n : Nat) (hl : l.length = 64) : ∀ k, k ≤ 8 → ∀ j, (lenSet l n k)[j]? = if 64 - k ≤ j ∧ j < 64 then some (BitVec.ofNat 8 (8 * n / 2 ^ (8 * (63 - j)))) else l[j]?
  | 0, _, j => by
    rw [lenSet, if_neg (by omega)]
  | k + 1, h, j => by
    rw [lenSet, List.getElem?_set, lenSet_length, hl]
    by_cases hj : 63 - k = j
    · subst hj
      rw [if_pos rfl, if_pos (by omega), if_pos (by omega), show 63 - (63 - k) = k by omega]
    · rw [if_neg hj, lenSet_get l n hl k (by omega) j]
      by_cases h2 : 64 - k ≤ j ∧ j < 64
      · rw [if_pos h2, if_pos (by omega)]
      · rw [if_neg h2, if_neg (by omega)]
theorem lenSet_all (l : List By) (n : Nat) (hl : l.length = 64) : lenSet l n 8 = l.take 56 ++ lenB n := by
  apply List.ext_getElem?
  intro j
  rw [lenSet_get l n hl 8 (by omega) j]
  by_cases h : 56 ≤ j
  · rw [List.getElem?_append_right (by rw [List.length_take]; omega), List.length_take, show min 56 l.length = 56 by omega]
    by_cases h2 : j < 64
    · rw [if_pos (by omega), lenB_get n (j - 56) (by omega), show 7 - (j - 56) = 63 - j by omega]
    · rw [if_neg (by omega), List.getElem?_eq_none (by omega), List.getElem?_eq_none (by rw [lenB_length]; omega)]
  · rw [if_neg (by omega), List.getElem?_append_left (by rw [List.length_take]; omega), List.getElem?_take, if_pos (by omega)]
theorem set_128 (l : List By) (r : Nat) (hl : l.length = r) (hr : r < 64) : (l ++ List.replicate (64 - r) 0).set r 128 = l ++ (128 :: List.replicate (63 - r) 0) := by
  rw [List.set_append_right r _ (by omega), hl, Nat.sub_self, show 64 - r = (63 - r) + 1 by omega, List.replicate_succ, List.set_cons_zero]

theorem lenByte (i L k : Nat) : 8 * (64 * (i : Int) + (L : Int)) / 2 ^ (8 * k) % 256 = v8 (BitVec.ofNat 8 (8 * (64 * i + L) / 2 ^ (8 * k))) := by
  unfold v8
  rw [BitVec.toNat_ofNat]
  have e : 8 * (64 * (i : Int) + (L : Int)) / 2 ^ (8 * k) = ((8 * (64 * i + L) / 2 ^ (8 * k) : Nat) : Int) := by
    rw [Int.natCast_ediv, Int.natCast_pow]
    push_cast
    rfl
  rw [e]
  omega
/-- The state that blocks lead to; the sum. -/
def chain (s : List Wd) (l : List Blk) : List Wd := l.foldl (fun s x => furtherL s KW x.1) s
theorem chain_snoc (s : List Wd) (l : List Blk) (x : Blk) : chain s (l ++ [x]) = furtherL (chain s l) KW x.1 := by simp [chain]
theorem chain_length (s : List Wd) (hs : s.length = 8) (l : List Blk) : (chain s l).length = 8 := by
  rcases List.eq_nil_or_concat l with rfl | ⟨p, x, rfl⟩
  · exact hs
  · rw [List.concat_eq_append, chain_snoc]; exact furtherL_length _ _ _
def sumL (b : List By) : List By := sumB (chain HW (blkTo b (nb b)))
theorem sumL_length (b : List By) : (sumL b).length = 32 := sumB_length _
end Go.Proofs.Ytohoieleakieeaa

/-! Bytes appended to a row of the call's own. -/
namespace Go.Proofs.Ytohoieleakieeaa
open Go Go.RowKit

/-- The cells of bytes, as a list. -/
def vb (b : List By) : List Value := b.map fun c => .int .u8 (v8 c)
theorem vb_length (b : List By) : (vb b).length = b.length := by simp [vb]
theorem vb_append (a b : List By) : vb (a ++ b) = vb a ++ vb b := by simp [vb]
theorem vb_get (b : List By) (j : Nat) (h : j < b.length) : (vb b)[j]? = some (.int .u8 (v8 (gb b j))) := by
  unfold vb gb
  rw [List.getElem?_map, List.getElem?_eq_getElem h]
  rfl
theorem vb_get' (b : List By) (j : Nat) (u : Value) (h : (vb b)[j]? = some u) : j < b.length ∧ u = .int .u8 (v8 (gb b j)) := by
  have hj : j < b.length := by
    rcases Nat.lt_or_ge j b.length with h1 | h1
    · exact h1
    · rw [List.getElem?_eq_none (by rw [vb_length]; exact h1)] at h; cases h
  rw [vb_get b j hj] at h
  exact ⟨hj, (Option.some.inj h).symm⟩
theorem vb_one (b : List By) : ∀ u ∈ vb b, u.oneCell' = true := by
  intro u hu
  unfold vb at hu
  obtain ⟨c, _, rfl⟩ := List.mem_map.1 hu
  rfl
def slen : Value → Nat
  | .slice _ n _ => n
  | _ => 0

/-- A row of the call's own, at least one byte. -/
structure OwnB (w : World) (base g n cap : Nat) (b : List By) : Prop where
  len : b.length = n
  row : w.ownsRow base 5 1 (.slice (some ⟨g, 0, none⟩) n cap) n (vb b)
theorem add_off (g j : Nat) : (⟨g, 0, none⟩ : Addr).add j = ⟨g, j, none⟩ := by
  unfold Addr.add
  split
  · rename_i h; rw [h]
  · simp
theorem OwnB.cell {w : World} {base g n cap : Nat} {b : List By} (h : OwnB w base g n cap b) {j : Nat} (hj : j < n) : w.cell? ⟨g, j, none⟩ = some (.int .u8 (v8 (gb b j))) := by
  have := h.row.cells (g := g) rfl j _ (vb_get b j (by rw [h.len]; exact hj))
  rw [add_off] at this
  exact this
theorem OwnB.lt {w : World} {base g n cap : Nat} {b : List By} (h : OwnB w base g n cap b) : base ≤ g ∧ g < w.heap.size := h.row.lt g rfl
theorem OwnB.same {w w' : World} {base g n cap : Nat} {b : List By} (h : OwnB w base g n cap b) (hh : w'.heap[g]? = w.heap[g]?) : OwnB w' base g n cap b := ⟨h.len, by
  obtain ⟨h1, h2⟩ := h.row
  refine ⟨h1, ?_⟩
  rcases h2 with ⟨h3, h4⟩ | ⟨g', c', cur, h3, h4, h5, h6⟩
  · exact .inl ⟨h3, h4⟩
  · refine .inr ⟨g', c', cur, h3, h4, ?_, h6⟩
    rw [← h5]
    have e : g' = g := by injection h3 with e1; injection e1 with e2; injection e2 with e3; exact e3.symm
    subst e
    exact hh⟩
theorem OwnB.below {w w' : World} {base g n cap : Nat} {b : List By} (h : OwnB w base g n cap b) (hb : Below w.heap.size w w') : OwnB w' base g n cap b := by
  have hg := h.lt.2
  obtain ⟨_, _, _, _, hh⟩ := hb
  exact h.same (hh g hg)
theorem OwnB.other {w : World} {base g n cap : Nat} {b : List By} (h : OwnB w base g n cap b) {g' : Nat} (hg : g ≠ g') (j : Nat) (v : Value) : OwnB (w.setCell ⟨g', j, none⟩ v) base g n cap b :=
  h.same (Below.heap_setCell _ _ _ g hg)
theorem OwnB.putOther {w : World} {base g n cap : Nat} {b : List By} (h : OwnB w base g n cap b) {g' : Nat} (hg : g ≠ g') (cs : Array Value) : OwnB (w.setRow g' cs) base g n cap b :=
  h.same (by simp only [World.setRow, Array.getElem?_modify]; rw [if_neg (fun e => hg e.symm)])

section
variable {P : Program} {ops : Array Oper} {rest : List Oper} {o : Oper} {a : Act} {w : World} {Q : Exit → Act → World → Prop}
/-- What came in is appended, nil or not. -/
theorem append_in (hgd : o.guard = none) (s x : Operand) (t : TypeId) (ho : o.op = .call { callee := .builtin .append, args := #[s, x], argTypes := #[t, t] })
    (base : Nat) (i : TypeInfo) (ht : P.underlying t = some (.slice 5)) (hi : P.info? 5 = some i) (hz : i.zero = some (.int .u8 0)) (hsize : i.size = 1) (hby : i.bytes = 1)
    (hs : a.eval s = .slice none 0 0) (ad : Option Addr) (g off len cap : Nat) (b : List By) (hb : b.length = len) (hl : len ≤ 2097152) (hx : a.eval x = .slice ad len cap)
    (hn : ad = none → len = 0 ∧ cap = 0) (ha : 0 < len → ad = some ⟨g, off, none⟩) (hc : ∀ j : Nat, j < len → w.cell? ⟨g, off + j, none⟩ = some (.int .u8 (v8 (gb b j)))) (hbase : base ≤ w.heap.size)
    (h : ∀ v' w', w'.ownsRow base 5 1 v' len (vb b) → w.grownBy w' none → wpList P ops Q rest (a.put o.dst v') w') : wpList P ops Q (o :: rest) a w := by
  cases ad with
  | none =>
    obtain ⟨rfl, rfl⟩ := hn rfl
    obtain rfl : b = [] := List.eq_nil_of_length_eq_zero hb
    exact wpList_append_own_none hgd s x t ho base 5 i 1 ht hi _ 0 [] hs (World.ownsRow_nil _ _ _ _) hx (h _ _ (World.ownsRow_nil _ _ _ _) (World.grownBy.refl _ _))
  | some ad =>
    refine wpList_append_own w hgd s x t ho base 5 i (.int .u8 0) 1 1 ht hi hz hsize hby rfl (by decide) _ 0 [] hs (World.ownsRow_nil _ _ _ _) ad len cap (vb b) hx (by rw [vb_length, hb, Nat.mul_one]) ?_ (vb_one b) (by unfold maxLen; omega) (by omega) hbase ?_
    · intro j u hj
      obtain ⟨h1, rfl⟩ := vb_get' b j u hj
      have e := ha (by omega)
      injection e with e
      subst e
      rw [add_at]
      exact hc j (by omega)
    · intro v' w' h1 h2 _
      rw [Nat.zero_add] at h1
      exact h v' w' h1 h2
end
theorem len_byte (n k M : Nat) (hM : 2 ^ k = M) (h : 8 * n / M < 256) : v8 (BitVec.ofNat 8 (8 * n / 2 ^ k)) = (n : Int) * 8 / (M : Int) := by
  unfold v8
  rw [BitVec.toNat_ofNat, hM, Nat.mod_eq_of_lt h, Int.natCast_ediv]
  congr 1
  push_cast
  omega
theorem vb_lenB (n : Nat) (h : n ≤ 5000) : vb (lenB n) = [.int .u8 ((n : Int) * 8 / 72057594037927936), .int .u8 ((n : Int) * 8 / 281474976710656), .int .u8 ((n : Int) * 8 / 1099511627776), .int .u8 ((n : Int) * 8 / 4294967296), .int .u8 ((n : Int) * 8 / 16777216), .int .u8 ((n : Int) * 8 / 65536), .int .u8 ((n : Int) * 8 / 256), .int .u8 ((n : Int) * 8 % 256)] := by
  have e0 := len_byte n 56 72057594037927936 (by decide) (by omega)
  have e1 := len_byte n 48 281474976710656 (by decide) (by omega)
  have e2 := len_byte n 40 1099511627776 (by decide) (by omega)
  have e3 := len_byte n 32 4294967296 (by decide) (by omega)
  have e4 := len_byte n 24 16777216 (by decide) (by omega)
  have e5 := len_byte n 16 65536 (by decide) (by omega)
  have e6 := len_byte n 8 256 (by decide) (by omega)
  have e7 : v8 (BitVec.ofNat 8 (8 * n / 2 ^ 0)) = (n : Int) * 8 % 256 := by
    unfold v8
    rw [BitVec.toNat_ofNat]
    omega
  unfold vb lenB
  rw [show List.range 8 = [0, 1, 2, 3, 4, 5, 6, 7] from rfl]
  simp only [List.map_cons, List.map_nil]
  rw [show 8 * (7 - 0) = 56 from rfl, show 8 * (7 - 1) = 48 from rfl, show 8 * (7 - 2) = 40 from rfl, show 8 * (7 - 3) = 32 from rfl, show 8 * (7 - 4) = 24 from rfl, show 8 * (7 - 5) = 16 from rfl, show 8 * (7 - 6) = 8 from rfl, show 8 * (7 - 7) = 0 from rfl, e0, e1, e2, e3, e4, e5, e6, e7]
  rfl
theorem cells_new (w : World) (cs : Array Value) (t : TypeId) : ∀ j u, cs.toList[j]? = some u → (w.alloc (.cells cs t)).cell? ((⟨w.heap.size, 0, none⟩ : Addr).add j) = some u := by
  intro j u h
  rw [add_off, (Row.new w t cs).cell j, ← h]
  simp
end Go.Proofs.Ytohoieleakieeaa
