/-
  Rows of words and bytes in memory: a block that holds a list, whole.
-/
import Derived.Test.YtoajnhngcfjohaaShaWord
import Derived.WalkKit
import Derived.WalkSpells
import Derived.WalkLawsBesides
import Derived.Deep.WholeRow
import Derived.Laws.ResultCell
namespace Go.Proofs.Ytoajnhngcfjohaa
open Go Go.RowKit

abbrev By := BitVec 8
/-- A byte as the number that memory holds. -/
def v8 (x : By) : Int := (x.toNat : Int)
theorem v8_nn (x : By) : 0 ≤ v8 x := by unfold v8; omega
theorem v8_le (x : By) : v8 x ≤ 255 := by have := x.isLt; unfold v8; omega
theorem v8_inj {x y : By} (h : v8 x = v8 y) : x = y := by unfold v8 at h; apply BitVec.eq_of_toNat_eq; omega

/-- The cells of words, of bytes, of numbers of 64 bits. -/
def ws (xs : List Wd) : Array Value := (xs.map fun x => Value.int .u32 (u x)).toArray
def bs (xs : List By) : Array Value := (xs.map fun x => Value.int .u8 (v8 x)).toArray
def ns (xs : List Nat) : Array Value := (xs.map fun (x : Nat) => Value.int .u64 (x : Int)).toArray
/-- The j-th. -/
def gw (xs : List Wd) (j : Nat) : Wd := xs[j]?.getD 0
def gb (xs : List By) (j : Nat) : By := xs[j]?.getD 0
def gn (xs : List Nat) (j : Nat) : Nat := xs[j]?.getD 0

theorem ws_size (xs : List Wd) : (ws xs).size = xs.length := by simp [ws]
theorem bs_size (xs : List By) : (bs xs).size = xs.length := by simp [bs]
theorem ns_size (xs : List Nat) : (ns xs).size = xs.length := by simp [ns]
theorem ws_one (xs : List Wd) : (ws xs).all (·.oneCell') = true := by simp [ws, Value.oneCell']
theorem bs_one (xs : List By) : (bs xs).all (·.oneCell') = true := by simp [bs, Value.oneCell']
theorem ns_one (xs : List Nat) : (ns xs).all (·.oneCell') = true := by simp [ns, Value.oneCell']
theorem ws_get (xs : List Wd) (j : Nat) (h : j < xs.length) : (ws xs)[j]? = some (.int .u32 (u (gw xs j))) := by simp [ws, gw, h]
theorem bs_get (xs : List By) (j : Nat) (h : j < xs.length) : (bs xs)[j]? = some (.int .u8 (v8 (gb xs j))) := by simp [bs, gb, h]
theorem ns_get (xs : List Nat) (j : Nat) (h : j < xs.length) : (ns xs)[j]? = some (.int .u64 (gn xs j : Int)) := by simp [ns, gn, h]
theorem ws_set (xs : List Wd) (j : Nat) (x : Wd) : (ws xs).setIfInBounds j (.int .u32 (u x)) = ws (xs.set j x) := by
  apply Array.ext'
  simp [ws, List.map_set]
theorem bs_set (xs : List By) (j : Nat) (x : By) : (bs xs).setIfInBounds j (.int .u8 (v8 x)) = bs (xs.set j x) := by
  apply Array.ext'
  simp [bs, List.map_set]
theorem ns_set (xs : List Nat) (j : Nat) (x : Nat) : (ns xs).setIfInBounds j (.int .u64 (x : Int)) = ns (xs.set j x) := by
  apply Array.ext'
  simp [ns, List.map_set]
theorem ws_inj {xs ys : List Wd} (h : ws xs = ws ys) : xs = ys := by
  unfold ws at h
  have h' := congrArg Array.toList h
  simp only at h'
  exact (List.map_inj_right (fun x y e => u_inj (by injection e))).1 h'
theorem bs_inj {xs ys : List By} (h : bs xs = bs ys) : xs = ys := by
  unfold bs at h
  have h' := congrArg Array.toList h
  simp only at h'
  exact (List.map_inj_right (fun x y e => v8_inj (by injection e))).1 h'

/-- The block g holds the cells cs, whole, and may be written. -/
def Row (w : World) (g : Nat) (t : TypeId) (cs : Array Value) : Prop := w.heap[g]? = some (.cells cs t (0, 0))

theorem Row.lt {w : World} {g : Nat} {t : TypeId} {cs : Array Value} (h : Row w g t cs) : g < w.heap.size := (Array.getElem?_eq_some_iff.1 h).1
theorem Row.cell {w : World} {g : Nat} {t : TypeId} {cs : Array Value} (h : Row w g t cs) (j : Nat) : w.cell? ⟨g, j, none⟩ = cs[j]? := cell_of_row w g j cs t (0, 0) h
theorem Row.cellW {w : World} {g : Nat} {t : TypeId} {xs : List Wd} (h : Row w g t (ws xs)) {j : Nat} (hj : j < xs.length) : w.cell? ⟨g, j, none⟩ = some (.int .u32 (u (gw xs j))) := (h.cell j).trans (ws_get xs j hj)
theorem Row.cellB {w : World} {g : Nat} {t : TypeId} {xs : List By} (h : Row w g t (bs xs)) {j : Nat} (hj : j < xs.length) : w.cell? ⟨g, j, none⟩ = some (.int .u8 (v8 (gb xs j))) := (h.cell j).trans (bs_get xs j hj)
theorem Row.cellN {w : World} {g : Nat} {t : TypeId} {xs : List Nat} (h : Row w g t (ns xs)) {j : Nat} (hj : j < xs.length) : w.cell? ⟨g, j, none⟩ = some (.int .u64 (gn xs j : Int)) := (h.cell j).trans (ns_get xs j hj)
theorem Row.frozen {w : World} {g : Nat} {t : TypeId} {cs : Array Value} (h : Row w g t cs) (j : Nat) : w.frozen? ⟨g, j, none⟩ = false := frozen_of_row w g j cs t h
theorem Row.new (w : World) (t : TypeId) (cs : Array Value) : Row (w.alloc (.cells cs t)) w.heap.size t cs := heap_alloc_new w _
theorem Row.alloc {w : World} {g : Nat} {t : TypeId} {cs : Array Value} (h : Row w g t cs) (o : Obj) : Row (w.alloc o) g t cs := (Below.heap_alloc w o g h.lt).trans h
theorem Row.drew {w : World} {g : Nat} {t : TypeId} {cs : Array Value} (h : Row w g t cs) : Row w.drew g t cs := h
theorem Row.set {w : World} {g : Nat} {t : TypeId} {cs : Array Value} (h : Row w g t cs) (j : Nat) (v : Value) : Row (w.setCell ⟨g, j, none⟩ v) g t (cs.setIfInBounds j v) := heap_setCell_same w g j cs t v h
theorem Row.other {w : World} {g : Nat} {t : TypeId} {cs : Array Value} (h : Row w g t cs) {a : Addr} (ha : g ≠ a.block) (v : Value) : Row (w.setCell a v) g t cs := (heap_setCell_other w a g v ha).trans h
theorem Row.below {w w' : World} {n g : Nat} {t : TypeId} {cs : Array Value} (h : Row w g t cs) (hb : Below n w w') (hg : g < n) : Row w' g t cs := (hb.block g hg).trans h
theorem Row.put {w : World} {g : Nat} {t : TypeId} {cs : Array Value} (h : Row w g t cs) (cs' : Array Value) : Row (w.setRow g cs') g t cs' := setRow_heap w g cs cs' t (0, 0) h
theorem Row.putOther {w : World} {g k : Nat} {t : TypeId} {cs : Array Value} (h : Row w g t cs) (hk : g ≠ k) (cs' : Array Value) : Row (w.setRow k cs') g t cs := (setRow_other w k g cs' hk).trans h

theorem bSetRow {B : Nat} {a w : World} (h : Below B a w) {g : Nat} (hg : B ≤ g) (cs : Array Value) : Below B a (w.setRow g cs) :=
  ⟨h.os, h.tape, h.output, by rw [setRow_size]; exact h.size, fun k hk => (setRow_other w g k cs (by omega)).trans (h.block k hk)⟩

theorem bcell {W w1 : World} (hb : Below W.heap.size W w1) : (∀ b o, b < W.heap.size → w1.cell? ⟨b, o, none⟩ = W.cell? ⟨b, o, none⟩) ∧ (∀ b o, b < W.heap.size → w1.frozen? ⟨b, o, none⟩ = W.frozen? ⟨b, o, none⟩) :=
  ⟨fun b o h => hb.cell (p := ⟨b, o, none⟩) h, fun b o h => hb.frozen (p := ⟨b, o, none⟩) h⟩
/-- Where a row lies that was made one, two, three blocks ago. -/
theorem Row.new1 (w : World) (o : Obj) (t : TypeId) (cs : Array Value) : Row ((w.alloc o).alloc (.cells cs t)) (w.heap.size + 1) t cs := by
  have := Row.new (w.alloc o) t cs
  rw [World.size_alloc] at this
  exact this
theorem Row.new2 (w : World) (o o' : Obj) (t : TypeId) (cs : Array Value) : Row (((w.alloc o).alloc o').alloc (.cells cs t)) (w.heap.size + 1 + 1) t cs := by
  have := Row.new1 (w.alloc o) o' t cs
  rw [World.size_alloc] at this
  exact this
theorem Row.new3 (w : World) (o o' o2 : Obj) (t : TypeId) (cs : Array Value) : Row ((((w.alloc o).alloc o').alloc o2).alloc (.cells cs t)) (w.heap.size + 1 + 1 + 1) t cs := by
  have := Row.new2 (w.alloc o) o' o2 t cs
  rw [World.size_alloc] at this
  exact this

/-- Eight cells, stored one behind the other. -/
def put8 (w : World) (g : Nat) (v0 v1 v2 v3 v4 v5 v6 v7 : Value) : World := ((((((((w.setCell ⟨g, 0, none⟩ v0).setCell ⟨g, 1, none⟩ v1).setCell ⟨g, 2, none⟩ v2).setCell ⟨g, 3, none⟩ v3).setCell ⟨g, 4, none⟩ v4).setCell ⟨g, 5, none⟩ v5).setCell ⟨g, 6, none⟩ v6).setCell ⟨g, 7, none⟩ v7)
theorem put8_row {w : World} {g : Nat} {t : TypeId} {cs : Array Value} (h : Row w g t cs) (h8 : cs.size = 8) (v0 v1 v2 v3 v4 v5 v6 v7 : Value) : Row (put8 w g v0 v1 v2 v3 v4 v5 v6 v7) g t #[v0, v1, v2, v3, v4, v5, v6, v7] := by
  have e : (((((((cs.setIfInBounds 0 v0).setIfInBounds 1 v1).setIfInBounds 2 v2).setIfInBounds 3 v3).setIfInBounds 4 v4).setIfInBounds 5 v5).setIfInBounds 6 v6).setIfInBounds 7 v7 = #[v0, v1, v2, v3, v4, v5, v6, v7] := by
    obtain ⟨l⟩ := cs
    match l, h8 with
    | [a, b, c, d, e, f, g, i], _ => simp
  rw [← e]
  exact (((((((h.set 0 v0).set 1 v1).set 2 v2).set 3 v3).set 4 v4).set 5 v5).set 6 v6).set 7 v7
theorem put8_other {w : World} {g g' : Nat} {t : TypeId} {cs : Array Value} (h : Row w g t cs) (hg : g ≠ g') (v0 v1 v2 v3 v4 v5 v6 v7 : Value) : Row (put8 w g' v0 v1 v2 v3 v4 v5 v6 v7) g t cs :=
  (((((((h.other hg v0).other hg v1).other hg v2).other hg v3).other hg v4).other hg v5).other hg v6).other hg v7
theorem put8_below {B : Nat} {a w : World} (h : Below B a w) {g : Nat} (hg : B ≤ g) (v0 v1 v2 v3 v4 v5 v6 v7 : Value) : Below B a (put8 w g v0 v1 v2 v3 v4 v5 v6 v7) :=
  (((((((h.setCell (p := ⟨g, 0, none⟩) hg v0).setCell (p := ⟨g, 1, none⟩) hg v1).setCell (p := ⟨g, 2, none⟩) hg v2).setCell (p := ⟨g, 3, none⟩) hg v3).setCell (p := ⟨g, 4, none⟩) hg v4).setCell (p := ⟨g, 5, none⟩) hg v5).setCell (p := ⟨g, 6, none⟩) hg v6).setCell (p := ⟨g, 7, none⟩) hg v7

section
variable {P : Program}
/-- A whole array is loaded. -/
theorem load_row {ops : Array Oper} {rest : List Oper} {o : Oper} {a : Act} {w : World} {Q : Exit → Act → World → Prop} (hgd : o.guard = none) (ty : TypeId) (x : Operand) (ho : o.op = .load ty x)
    (g : Nat) (hx : a.eval x = .pointer (some ⟨g, 0, none⟩)) (t : TypeId) (cs : Array Value) (hg : Row w g t cs) (n : Nat) (e : TypeId)
    (hu : P.underlying ty = some (.array n e)) (hi : (P.info? ty).map (·.size) = some n) (hc : cs.size = n)
    (h : wpList P ops Q rest (a.put o.dst (.agg cs)) w) : wpList P ops Q (o :: rest) a w :=
  wpList_load_row hgd ty x ho g hx t cs (0, 0) _ hg hu rfl (by rw [hc]; exact hi) h

/-- An element of an array that is a value. -/
theorem run_index (t e : TypeId) (n : Nat) (d : TypeDesc) (cs : Array Value) (k : Nat) (v : Value) (hu : P.underlying t = some (.array n e)) (he : P.underlying e = some d) (hd : (match d with | .struct _ | .array _ _ => true | _ => false) = false)
    (hi : (P.info? e).map (·.size) = some 1) (hk : k < n) (hv : cs[k]? = some v) (w : World) : (Instr.index t (.agg cs) (.int .i64 (k : Int))).run P w = .ok v w := by
  have hsz : (sizeOf e).run P w = .ok 1 w := by
    cases hq : P.info? e with
    | none => simp [hq] at hi
    | some i =>
      have : i.size = 1 := by simpa [hq] using hi
      simp [sizeOf, typeInfo, hq, this]
  have hag : (isAgg e).run P w = .ok false w := by
    unfold isAgg
    rw [Sem.run_bind, run_underlying he w]
    cases d <;> simp_all
  simp [Instr.index, asIntOf, run_underlying hu, hk, hsz, part, hag, hv]

theorem wp_store_row {op : Oper} {a : Act} {w : World} {K : Act → World → Prop} {Q : Exit → Act → World → Prop} (ty : TypeId) (x y : Operand) (ho : op.op = .store ty x y)
    (g : Nat) (cs : Array Value) (hx : a.eval x = .pointer (some ⟨g, 0, none⟩)) (hy : a.eval y = .agg cs) (t : TypeId) (old : Array Value) (hg : Row w g t old)
    (hi : (P.info? ty).map (·.size) = some cs.size) (hs : old.size = cs.size) (h1 : cs.all (·.oneCell') = true)
    (h : K (a.put op.dst undef) (w.setRow g cs)) : op.wp P a w K Q := by
  unfold Oper.wp execOp
  simp only [ho, hx, hy, Instr.storeAt, Instr.sureAddr, Sem.run_bind, Sem.run_pure, Result.andThen_ok, run_storeVar_row w g t ty old cs hg hi hs h1]
  exact h

/-- A whole array is stored. -/
theorem store_row {ops : Array Oper} {rest : List Oper} {op : Oper} {a : Act} {w : World} {Q : Exit → Act → World → Prop} (hgd : op.guard = none) (ty : TypeId) (x y : Operand) (ho : op.op = .store ty x y)
    (g : Nat) (cs : Array Value) (hx : a.eval x = .pointer (some ⟨g, 0, none⟩)) (hy : a.eval y = .agg cs) (t : TypeId) (old : Array Value) (hg : Row w g t old)
    (n : Nat) (hi : (P.info? ty).map (·.size) = some n) (hs : old.size = n) (hc : cs.size = n) (h1 : cs.all (·.oneCell') = true)
    (h : wpList P ops Q rest (a.put op.dst undef) (w.setRow g cs)) : wpList P ops Q (op :: rest) a w :=
  wpList_plain hgd fun _ hK => wp_store_row ty x y ho g cs hx hy t old hg (by rw [hc]; exact hi) (by omega) h1 (hK _ _ h)

/-- A whole array is built. -/
theorem build_row {ops : Array Oper} {rest : List Oper} {o : Oper} {a : Act} {w : World} {Q : Exit → Act → World → Prop} (hgd : o.guard = none) (t : TypeId) (parts : Array (Nat × Operand)) (ho : o.op = .build t parts)
    (cs : Array Value) (hb : P.built t (parts.map fun (i, x) => (i, a.eval x)).toList = some cs) (h : wpList P ops Q rest (a.put o.dst (.agg cs)) w) : wpList P ops Q (o :: rest) a w :=
  wpList_plain hgd fun _ hK => wp_build t parts ho (by rw [hb]; rfl) (by rw [hb]; exact hK _ _ h)

/-- A whole array is stored into the block that was made last. -/
theorem store_new {ops : Array Oper} {rest : List Oper} {op : Oper} {a : Act} {w : World} {Q : Exit → Act → World → Prop} (hgd : op.guard = none) (ty : TypeId) (x y : Operand) (ho : op.op = .store ty x y)
    (g : Nat) (cs : Array Value) (hx : a.eval x = .pointer (some ⟨g, 0, none⟩)) (hy : a.eval y = .agg cs) (t : TypeId) (old : Array Value) (hg : w.heap.size = g)
    (n : Nat) (hi : (P.info? ty).map (·.size) = some n) (hs : old.size = n) (hc : cs.size = n) (h1 : cs.all (·.oneCell') = true)
    (h : wpList P ops Q rest (a.put op.dst undef) (w.alloc (.cells cs t))) : wpList P ops Q (op :: rest) a (w.alloc (.cells old t)) := by
  subst hg
  refine store_row hgd ty x y ho w.heap.size cs hx hy t old (Row.new _ _ _) n hi hs hc h1 ?_
  rw [World.setRow_alloc_new]
  exact h

/-- A whole array is handed back. -/
theorem result_row {fn : Func} {p : Tmp} {ty : TypeId} (h : fn.results = #[.cell p ty]) (tmps : Array Value) (w : World) (g : Nat) (t : TypeId) (cs : Array Value) (hg : Row w g t cs) (n : Nat) (e : TypeId)
    (hp : tmps.getD p undef = .pointer (some ⟨g, 0, none⟩)) (hu : P.underlying ty = some (.array n e)) (hi : (P.info? ty).map (·.size) = some n) (hc : cs.size = n) :
    (results fn tmps).run P w = .ok (.agg cs) w :=
  results_cell_row h tmps w g t cs (0, 0) _ hp hg hu rfl (by rw [hc]; exact hi)

/-- A whole array is handed back, with a second result. -/
theorem result_row_tmp {fn : Func} {p q : Tmp} {ty : TypeId} (h : fn.results = #[.cell p ty, .tmp q]) (tmps : Array Value) (w : World) (g : Nat) (t : TypeId) (cs : Array Value) (hg : Row w g t cs) (n : Nat) (e : TypeId) (v : Value)
    (hp : tmps.getD p undef = .pointer (some ⟨g, 0, none⟩)) (hq : tmps.getD q undef = v) (hu : P.underlying ty = some (.array n e)) (hi : (P.info? ty).map (·.size) = some n) (hc : cs.size = n) :
    (results fn tmps).run P w = .ok (.tuple #[.agg cs, v]) w := by
  rw [results_cell_tmp h, hp, hq]
  simp [asAddr, Result.andThen, run_loadVar_row w g t ty cs (0, 0) _ hg hu rfl (by rw [hc]; exact hi)]
end
theorem add_at (g o j : Nat) : (⟨g, o, none⟩ : Addr).add j = ⟨g, o + j, none⟩ := by
  unfold Addr.add
  split
  · rename_i h; rw [h]; rfl
  · rfl
/-- The cells of bytes. -/
def bl (x : List By) : List Value := x.map fun x => Value.int .u8 (v8 x)
def z32 : List By := List.replicate 32 0
end Go.Proofs.Ytoajnhngcfjohaa
