/-
  Out of ShaWord, ShaArr, ShaPlain, ShaSched, ShaFurther, ShaPrimes, ShaPad, ShaChPlain, FrVarP, FrVarG, FrVarT, FrPlain, ShaHeld, ShaIn, ChaSl, FrVar, ShaLoop, HkIn, PlInv, AeInv.
-/
import Derived.Laws.BitsAllLaws
import Derived.WalkKit
import Derived.WalkSpells
import Derived.WalkLawsBesides
import Derived.Deep.WholeRow
import Derived.Laws.ResultCell
import Derived.Laws.AppendOwn
import Derived.Laws.AppendOwnNone
import Derived.OwnWalk
import Derived.RangeFuncBox
import Derived.Maps.AppendAt
import Derived.Below
import Derived.Test.YtimhbjlmpojhoaaGreatDoorRows
import Derived.OrdersHeld
import Derived.Deep.MidRow
import Derived.RangeFuncNested
import Derived.RangeFuncBound
import Derived.RangeFuncCalls
import Derived.RangeFuncLeaves
import Derived.Shelf.Abstract
import Derived.Shelf.RegionOpen
import Derived.OwnWalkIn
import Derived.TacticsInMore
import Derived.LoopNIn
import Derived.LoopIn
import Derived.Lib.AppendZeros
import Derived.OrdersIn

/-! Words of 32 bits, and the numbers that memory holds of them: no program in sight. -/
namespace Go.Proofs.YtimhbjlmpojhoaaGreatDoor
open Go

abbrev Wd := BitVec 32

/-- A word as the number that memory holds. -/
def u (x : Wd) : Int := (x.toNat : Int)
def xr (a b : Wd) : Wd := a ^^^ b
def an (a b : Wd) : Wd := a &&& b
def oo (a b : Wd) : Wd := a ||| b
def nt (a : Wd) : Wd := ~~~a
def ad (a b : Wd) : Wd := a + b
def sb (a b : Wd) : Wd := a - b
def sr (x : Wd) (n : Nat) : Wd := x >>> n
def sl (x : Wd) (n : Nat) : Wd := x <<< n
/-- Turned right by n bits. -/
def rr (x : Wd) (n : Nat) : Wd := oo (sr x n) (sl x (32 - n))

end Go.Proofs.YtimhbjlmpojhoaaGreatDoor

/-! Rows of words and bytes in memory: a block that holds a list, whole. -/
namespace Go.Proofs.YtimhbjlmpojhoaaGreatDoor
open Go Go.RowKit

abbrev By := BitVec 8
/-- A byte as the number that memory holds. -/
def v8 (x : By) : Int := (x.toNat : Int)
theorem v8_nn (x : By) : 0 ≤ v8 x := by unfold v8; omega
theorem v8_le (x : By) : v8 x ≤ 255 := by have := x.isLt; unfold v8; omega
def gb (xs : List By) (j : Nat) : By := xs[j]?.getD 0
/-- The block g holds the cells cs, whole, and may be written. -/
def Row (w : World) (g : Nat) (t : TypeId) (cs : Array Value) : Prop := w.heap[g]? = some (.cells cs t (0, 0))

theorem Row.lt {w : World} {g : Nat} {t : TypeId} {cs : Array Value} (h : Row w g t cs) : g < w.heap.size := (Array.getElem?_eq_some_iff.1 h).1
theorem Row.cell {w : World} {g : Nat} {t : TypeId} {cs : Array Value} (h : Row w g t cs) (j : Nat) : w.cell? ⟨g, j, none⟩ = cs[j]? := cell_of_row w g j cs t (0, 0) h
theorem Row.frozen {w : World} {g : Nat} {t : TypeId} {cs : Array Value} (h : Row w g t cs) (j : Nat) : w.frozen? ⟨g, j, none⟩ = false := frozen_of_row w g j cs t h
theorem Row.new (w : World) (t : TypeId) (cs : Array Value) : Row (w.alloc (.cells cs t)) w.heap.size t cs := heap_alloc_new w _
theorem Row.alloc {w : World} {g : Nat} {t : TypeId} {cs : Array Value} (h : Row w g t cs) (o : Obj) : Row (w.alloc o) g t cs := (Below.heap_alloc w o g h.lt).trans h
theorem Row.drew {w : World} {g : Nat} {t : TypeId} {cs : Array Value} (h : Row w g t cs) : Row w.drew g t cs := h
theorem Row.set {w : World} {g : Nat} {t : TypeId} {cs : Array Value} (h : Row w g t cs) (j : Nat) (v : Value) : Row (w.setCell ⟨g, j, none⟩ v) g t (cs.setIfInBounds j v) := heap_setCell_same w g j cs t v h
theorem Row.other {w : World} {g : Nat} {t : TypeId} {cs : Array Value} (h : Row w g t cs) {a : Addr} (ha : g ≠ a.block) (v : Value) : Row (w.setCell a v) g t cs := (heap_setCell_other w a g v ha).trans h
theorem Row.below {w w' : World} {n g : Nat} {t : TypeId} {cs : Array Value} (h : Row w g t cs) (hb : Below n w w') (hg : g < n) : Row w' g t cs := (hb.block g hg).trans h
theorem Row.put {w : World} {g : Nat} {t : TypeId} {cs : Array Value} (h : Row w g t cs) (cs' : Array Value) : Row (w.setRow g cs') g t cs' := setRow_heap w g cs cs' t (0, 0) h
theorem Row.putOther {w : World} {g k : Nat} {t : TypeId} {cs : Array Value} (h : Row w g t cs) (hk : g ≠ k) (cs' : Array Value) : Row (w.setRow k cs') g t cs := (setRow_other w k g cs' hk).trans h

theorem bSetRow {B : Nat} {a w : World} (h : Below B a w) {g : Nat} (hg : B ≤ g) (cs : Array Value) : Below B a (w.setRow g cs) :=
  ⟨h.os, h.tape, h.output, by rw [setRow_size]; exact h.size, fun k hk => (setRow_other w g k cs (by omega)).trans (h.block k hk)⟩

/-- Where a row lies that was made one, two, three blocks ago. -/
theorem Row.new1 (w : World) (o : Obj) (t : TypeId) (cs : Array Value) : Row ((w.alloc o).alloc (.cells cs t)) (w.heap.size + 1) t cs := by
  have := Row.new (w.alloc o) t cs
  rw [World.size_alloc] at this
  exact this
/-- Eight cells, stored one behind the other. -/
def put8 (w : World) (g : Nat) (v0 v1 v2 v3 v4 v5 v6 v7 : Value) : World := ((((((((w.setCell ⟨g, 0, none⟩ v0).setCell ⟨g, 1, none⟩ v1).setCell ⟨g, 2, none⟩ v2).setCell ⟨g, 3, none⟩ v3).setCell ⟨g, 4, none⟩ v4).setCell ⟨g, 5, none⟩ v5).setCell ⟨g, 6, none⟩ v6).setCell ⟨g, 7, none⟩ v7)
theorem put8_row {w : World} {g : Nat} {t : TypeId} {cs : Array Value} (h : Row w g t cs) (h8 : cs.size = 8) (v0 v1 v2 v3 v4 v5 v6 v7 : Value) : Row (put8 w g v0 v1 v2 v3 v4 v5 v6 v7) g t #[v0, v1, v2, v3, v4, v5, v6, v7] := by
  have e : (((((((cs.setIfInBounds 0 v0).setIfInBounds 1 v1).setIfInBounds 2 v2).setIfInBounds 3 v3).setIfInBounds 4 v4).setIfInBounds 5 v5).setIfInBounds 6 v6).setIfInBounds 7 v7 = #[v0, v1, v2, v3, v4, v5, v6, v7] := by
    obtain ⟨l⟩ := cs
    match l, h8 with
    | [a, b, c, d, e, f, g, i], _ => simp
  rw [← e]
  exact (((((((h.set 0 v0).set 1 v1).set 2 v2).set 3 v3).set 4 v4).set 5 v5).set 6 v6).set 7 v7
theorem put8_below {B : Nat} {a w : World} (h : Below B a w) {g : Nat} (hg : B ≤ g) (v0 v1 v2 v3 v4 v5 v6 v7 : Value) : Below B a (put8 w g v0 v1 v2 v3 v4 v5 v6 v7) :=
  (((((((h.setCell (p := ⟨g, 0, none⟩) hg v0).setCell (p := ⟨g, 1, none⟩) hg v1).setCell (p := ⟨g, 2, none⟩) hg v2).setCell (p := ⟨g, 3, none⟩) hg v3).setCell (p := ⟨g, 4, none⟩) hg v4).setCell (p := ⟨g, 5, none⟩) hg v5).setCell (p := ⟨g, 6, none⟩) hg v6).setCell (p := ⟨g, 7, none⟩) hg v7

section
variable {P : Program}
theorem wp_store_row {op : Oper} {a : Act} {w : World} {K : Act → World → Prop} {Q : Exit → Act → World → Prop} (ty : TypeId) (x y : Operand) (ho : op.op = .store ty x y)
    (g : Nat) (cs : Array Value) (hx : a.eval x = .pointer (some ⟨g, 0, none⟩)) (hy : a.eval y = .agg cs) (t : TypeId) (old : Array Value) (hg : Row w g t old)
    (hi : (P.info? ty).map (·.size) = some cs.size) (hs : old.size = cs.size) (h1 : cs.all (·.oneCell') = true)
    (h : K (a.put op.dst undef) (w.setRow g cs)) : op.wp P a w K Q := by
  unfold Oper.wp execOp
  simp only [ho, hx, hy, Instr.storeAt, Instr.sureAddr, Sem.run_bind, Sem.run_pure, Result.andThen_ok, run_storeVar_row w g t ty old cs hg hi hs h1]
  exact h

/-- A whole array is stored. -/
theorem store_row {ops : Array Oper} {rest : List Oper} {op : Oper} {a : Act} {w : World} {Q : Exit → Act → World → Prop} (hgd : op.guard = none) (ty : TypeId) (x y : Operand) (ho : op.op = .store ty x y)
    (g : Nat) (cs : Array Value) (hx : a.eval x = .pointer (some ⟨g, 0, none⟩)) (hy : a.eval y = .agg cs) (t : TypeId) (old : Array Value) (hg : Row w g t old)
    (n : Nat) (hi : (P.info? ty).map (·.size) = some n) (hs : old.size = n) (hc : cs.size = n) (h1 : cs.all (·.oneCell') = true)
    (h : wpList P ops Q rest (a.put op.dst undef) (w.setRow g cs)) : wpList P ops Q (op :: rest) a w :=
  wpList_plain hgd fun _ hK => wp_store_row ty x y ho g cs hx hy t old hg (by rw [hc]; exact hi) (by omega) h1 (hK _ _ h)

end
theorem add_at (g o j : Nat) : (⟨g, o, none⟩ : Addr).add j = ⟨g, o + j, none⟩ := by
  unfold Addr.add
  split
  · rename_i h; rw [h]; rfl
  · rfl
end Go.Proofs.YtimhbjlmpojhoaaGreatDoor

/-! SHA-256 on lists of words and bytes: no program in sight. -/
namespace Go.Proofs.YtimhbjlmpojhoaaGreatDoor
open Go

/-- The bits of f where e's are set, else those of g; those that at least two of a, b, c have. -/
def ch (e f g : Wd) : Wd := xr (an e f) (an (nt e) g)
def maj (a b c : Wd) : Wd := xr (xr (an a b) (an a c)) (an b c)
/-- Three taken against one another. -/
def S1 (e : Wd) : Wd := xr (xr (rr e 6) (rr e 11)) (rr e 25)
def S0 (a : Wd) : Wd := xr (xr (rr a 2) (rr a 13)) (rr a 22)
def s1 (x : Wd) : Wd := xr (xr (rr x 17) (rr x 19)) (sr x 10)
def s0 (y : Wd) : Wd := xr (xr (rr y 7) (rr y 18)) (sr y 3)
def T1 (e f g h kw : Wd) : Wd := ad (ad (ad h (S1 e)) (ch e f g)) kw
def T2 (a b c : Wd) : Wd := ad (S0 a) (maj a b c)
end Go.Proofs.YtimhbjlmpojhoaaGreatDoor

/-! The words of a block, on lists: no program in sight. -/
namespace Go.Proofs.YtimhbjlmpojhoaaGreatDoor
open Go

end Go.Proofs.YtimhbjlmpojhoaaGreatDoor

/-! A state, a block further, on lists: no program in sight. -/
namespace Go.Proofs.YtimhbjlmpojhoaaGreatDoor
open Go

end Go.Proofs.YtimhbjlmpojhoaaGreatDoor

/-! The first 64 primes, their roots, and how they are found: no program in sight. -/
namespace Go.Proofs.YtimhbjlmpojhoaaGreatDoor
open Go

def HW : List Wd := [1779033703, 3144134277, 1013904242, 2773480762, 1359893119, 2600822924, 528734635, 1541459225]
end Go.Proofs.YtimhbjlmpojhoaaGreatDoor

/-! The blocks of bytes, on lists: no program in sight. -/
namespace Go.Proofs.YtimhbjlmpojhoaaGreatDoor
open Go

end Go.Proofs.YtimhbjlmpojhoaaGreatDoor

/-! Bytes appended to a row of the call's own. -/
namespace Go.Proofs.YtimhbjlmpojhoaaGreatDoor
open Go Go.RowKit

/-- The cells of bytes, as a list. -/
def vb (b : List By) : List Value := b.map fun c => .int .u8 (v8 c)
theorem vb_length (b : List By) : (vb b).length = b.length := by simp [vb]
theorem vb_append (a b : List By) : vb (a ++ b) = vb a ++ vb b := by simp [vb]
theorem vb_get (b : List By) (j : Nat) (h : j < b.length) : (vb b)[j]? = some (.int .u8 (v8 (gb b j))) := by
  unfold vb gb
  rw [List.getElem?_map, List.getElem?_eq_getElem h]
  rfl
theorem vb_get' (b : List By) (j : Nat) (u : Value) (h : (vb b)[j]? = some u) : j < b.length ∧ u = .int .u8 (v8 (gb b j)) := by
  have hj : j < b.length := by
    rcases Nat.lt_or_ge j b.length with h1 | h1
    · exact h1
    · rw [List.getElem?_eq_none (by rw [vb_length]; exact h1)] at h; cases h
  rw [vb_get b j hj] at h
  exact ⟨hj, (Option.some.inj h).symm⟩
theorem vb_one (b : List By) : ∀ u ∈ vb b, u.oneCell' = true := by
  intro u hu
  unfold vb at hu
  obtain ⟨c, _, rfl⟩ := List.mem_map.1 hu
  rfl
/-- A row of the call's own, at least one byte. -/
structure OwnB (w : World) (base g n cap : Nat) (b : List By) : Prop where
  len : b.length = n
  row : w.ownsRow base 5 1 (.slice (some ⟨g, 0, none⟩) n cap) n (vb b)
theorem add_off (g j : Nat) : (⟨g, 0, none⟩ : Addr).add j = ⟨g, j, none⟩ := by
  unfold Addr.add
  split
  · rename_i h; rw [h]
  · simp
theorem OwnB.cell {w : World} {base g n cap : Nat} {b : List By} (h : OwnB w base g n cap b) {j : Nat} (hj : j < n) : w.cell? ⟨g, j, none⟩ = some (.int .u8 (v8 (gb b j))) := by
  have := h.row.cells (g := g) rfl j _ (vb_get b j (by rw [h.len]; exact hj))
  rw [add_off] at this
  exact this
theorem OwnB.lt {w : World} {base g n cap : Nat} {b : List By} (h : OwnB w base g n cap b) : base ≤ g ∧ g < w.heap.size := h.row.lt g rfl
theorem OwnB.same {w w' : World} {base g n cap : Nat} {b : List By} (h : OwnB w base g n cap b) (hh : w'.heap[g]? = w.heap[g]?) : OwnB w' base g n cap b := ⟨h.len, by
  obtain ⟨h1, h2⟩ := h.row
  refine ⟨h1, ?_⟩
  rcases h2 with ⟨h3, h4⟩ | ⟨g', c', cur, h3, h4, h5, h6⟩
  · exact .inl ⟨h3, h4⟩
  · refine .inr ⟨g', c', cur, h3, h4, ?_, h6⟩
    rw [← h5]
    have e : g' = g := by injection h3 with e1; injection e1 with e2; injection e2 with e3; exact e3.symm
    subst e
    exact hh⟩
theorem OwnB.below {w w' : World} {base g n cap : Nat} {b : List By} (h : OwnB w base g n cap b) (hb : Below w.heap.size w w') : OwnB w' base g n cap b := by
  have hg := h.lt.2
  obtain ⟨_, _, _, _, hh⟩ := hb
  exact h.same (hh g hg)
theorem OwnB.other {w : World} {base g n cap : Nat} {b : List By} (h : OwnB w base g n cap b) {g' : Nat} (hg : g ≠ g') (j : Nat) (v : Value) : OwnB (w.setCell ⟨g', j, none⟩ v) base g n cap b :=
  h.same (Below.heap_setCell _ _ _ g hg)
theorem OwnB.putOther {w : World} {base g n cap : Nat} {b : List By} (h : OwnB w base g n cap b) {g' : Nat} (hg : g ≠ g') (cs : Array Value) : OwnB (w.setRow g' cs) base g n cap b :=
  h.same (by simp only [World.setRow, Array.getElem?_modify]; rw [if_neg (fun e => hg e.symm)])

section
variable {P : Program} {ops : Array Oper} {rest : List Oper} {o : Oper} {a : Act} {w : World} {Q : Exit → Act → World → Prop}
end
end Go.Proofs.YtimhbjlmpojhoaaGreatDoor

/-! Plain arithmetic on lists of bytes for layer 1: no program in sight. -/
namespace Go.Proofs.YtimhbjlmpojhoaaGreatDoor
open Go

/-- How many bytes a number has, by its first byte. -/
def klen (z : Int) : Nat := if z < 64 then 1 else if z < 128 then 2 else if z < 192 then 4 else 8

/-- The number that bytes tell, the highest first, behind what is told already. -/
def acc (n : Int) : List Int → Int
  | [] => n
  | c :: r => acc (256 * n + c) r

theorem acc_snoc (n : Int) (l : List Int) (c : Int) : acc n (l ++ [c]) = 256 * acc n l + c := by
  induction l generalizing n with
  | nil => rfl
  | cons a r ih => exact ih (256 * n + a)

def isBytes (l : List Int) : Prop := ∀ c ∈ l, 0 ≤ c ∧ c ≤ 255

theorem acc_bound (l : List Int) : ∀ (n : Int) (m : Nat), 0 ≤ n → n < 2 ^ m → isBytes l → 0 ≤ acc n l ∧ acc n l < 2 ^ (m + 8 * l.length) := by
  induction l with
  | nil => intro n m h0 h1 _; exact ⟨h0, by simpa [acc] using h1⟩
  | cons c r ih =>
    intro n m h0 h1 hb
    have hc := hb c (by simp)
    have h2 := ih (256 * n + c) (m + 8) (by omega) (by
      have : (2 : Int) ^ (m + 8) = 2 ^ m * 256 := by rw [Int.pow_add]; rfl
      omega) (fun x hx => hb x (by simp [hx]))
    have e : m + 8 + 8 * r.length = m + 8 * (c :: r).length := by simp; omega
    rw [e] at h2
    exact h2

theorem take_snocV (zs : List Int) (k : Nat) (h : k < zs.length) : zs.take (k + 1) = zs.take k ++ [zs[k]?.getD 0] := by
  rw [List.take_succ_eq_append_getElem h]
  simp [h]

/-- What is told by the first 1 + i bytes. -/
def told (zs : List Int) (i : Nat) : Int := acc (zs[0]?.getD 0 % 64) ((zs.drop 1).take i)

theorem told_zero (zs : List Int) : told zs 0 = zs[0]?.getD 0 % 64 := by simp [told, acc]

theorem told_succ (zs : List Int) (i : Nat) (h : i + 1 < zs.length) : told zs (i + 1) = 256 * told zs i + zs[i + 1]?.getD 0 := by
  unfold told
  rw [take_snocV (zs.drop 1) i (by simp; omega), acc_snoc]
  simp

theorem told_bound (zs : List Int) (i : Nat) (hi : i ≤ 7) (hb : ∀ j : Nat, 0 ≤ zs[j]?.getD 0 ∧ zs[j]?.getD 0 ≤ 255) : 0 ≤ told zs i ∧ told zs i < 2 ^ (6 + 8 * i) ∧ told zs i < 4611686018427387904 := by
  have hl : ((zs.drop 1).take i).length ≤ i := by simp; omega
  have h := acc_bound ((zs.drop 1).take i) (zs[0]?.getD 0 % 64) 6 (by have := hb 0; omega) (by have := hb 0; omega) (by
    intro c hc
    have hc' := List.mem_of_mem_take hc
    obtain ⟨j, hj, rfl⟩ := List.getElem_of_mem (List.mem_of_mem_drop hc')
    have := hb j
    simpa [hj] using this)
  have hp : (2 : Int) ^ (6 + 8 * ((zs.drop 1).take i).length) ≤ 2 ^ (6 + 8 * i) := by
    have := Nat.pow_le_pow_right (n := 2) (by decide) (show 6 + 8 * ((zs.drop 1).take i).length ≤ 6 + 8 * i by omega)
    exact_mod_cast this
  have hq : (2 : Int) ^ (6 + 8 * i) ≤ 4611686018427387904 := by
    have e : (2 : Int) ^ 62 = 4611686018427387904 := by decide
    have hn := Nat.pow_le_pow_right (n := 2) (by decide) (show 6 + 8 * i ≤ 62 by omega)
    have hz := Int.ofNat_le.2 hn
    rw [Int.natCast_pow, Int.natCast_pow] at hz
    exact Int.le_trans hz (Int.le_of_eq e)
  unfold told
  omega

theorem told_low (zs : List Int) (i : Nat) (hi : i ≤ 6) (hb : ∀ j : Nat, 0 ≤ zs[j]?.getD 0 ∧ zs[j]?.getD 0 ≤ 255) : told zs i < 72057594037927936 := by
  have h := (told_bound zs i (by omega) hb).2.1
  have e : (2 : Int) ^ 54 ≤ 72057594037927936 := by decide
  have hn := Nat.pow_le_pow_right (n := 2) (by decide) (show 6 + 8 * i ≤ 54 by omega)
  have hz := Int.ofNat_le.2 hn
  rw [Int.natCast_pow, Int.natCast_pow] at hz
  exact Int.lt_of_lt_of_le h (Int.le_trans hz e)

/-- One more byte, by moving and joining bits. -/
theorem join8 (n c : Int) (h0 : 0 ≤ n) (h1 : n < 72057594037927936) (h2 : 0 ≤ c) (h3 : c ≤ 255) : bits .or .u64 (n * 256) c = 256 * n + c := by
  rw [u64_or _ _ (by omega) (by omega) (by omega) (by omega)]
  have hx : (n * 256).toNat % 2 ^ 8 = 0 := by omega
  rw [nat_join 8 _ _ hx (by omega)]
  omega

theorem mask63 (c : Int) (h0 : 0 ≤ c) (h1 : c ≤ 255) : bits .and .u8 c 63 = c % 64 := by
  rw [u8_and _ _ (by omega) (by omega) (by omega) (by omega)]
  have : (63 : Int).toNat = 63 := rfl
  rw [this, nat_mask6]
  omega

end Go.Proofs.YtimhbjlmpojhoaaGreatDoor

/-! What varint.Get and the document's Get answer. -/
namespace Go.Proofs.YtimhbjlmpojhoaaGreatDoor
open Go.RowKit

/-- Where bytes lie that are read: they are none, or a row of cells. -/
def LiesV (w : World) (a : Option Addr) (zs : List Int) : Prop :=
  zs = [] ∨ ∃ b off, a = some ⟨b, off, none⟩ ∧ b < w.heap.size ∧ ∀ j : Nat, j < zs.length → w.cell? ⟨b, off + j, none⟩ = some (.int .u8 (zs[j]?.getD 0))

theorem Tryz.infoByteV : (Tryz.prog.info? 5).map (fun i => (i.zero, i.size, i.bytes)) = some (some (.int .u8 0), 1, 1) := by kernel_rfl


/-- What Get answers: the number, how many bytes, the error's number. -/
def getR (zs : List Int) : Int × Nat × Int :=
  if zs.length = 0 then (0, 0, 4) else if zs.length < klen (zs[0]?.getD 0) then (0, 0, 4) else (told zs (klen (zs[0]?.getD 0) - 1), klen (zs[0]?.getD 0), 0)

/-- The array of lengths lies as its text lays it. -/
def Lens (w : World) : Prop := w.cell? ⟨1, 0, none⟩ = some (.int .i64 1) ∧ w.cell? ⟨1, 1, none⟩ = some (.int .i64 2) ∧ w.cell? ⟨1, 2, none⟩ = some (.int .i64 4) ∧ w.cell? ⟨1, 3, none⟩ = some (.int .i64 8)

set_option maxHeartbeats 400000 in
theorem get_none (a : Option Addr) (cap : Nat) (w : World) :
    Calls Tryz.prog 155 #[.slice a 0 cap] w fun e w' => e = .returned (.tuple #[.int .u64 0, .int .i64 0, .int .i64 4]) ∧ w' = w := by
  go_enter Tryz.func155, Tryz.ntmps155
  go_wp2
  go_ret3
  exact ⟨rfl, rfl⟩

theorem getR_short {zs : List Int} {z : Int} {K : Nat} (hz0 : zs[0]?.getD 0 = z) (hk : klen z = K) (h : zs.length < K) : getR zs = (0, 0, 4) := by
  unfold getR; rw [hz0, hk]; simp [h]
theorem getR_done {zs : List Int} {z : Int} {K : Nat} (hz0 : zs[0]?.getD 0 = z) (hk : klen z = K) (hp : 0 < zs.length) (h : K ≤ zs.length) : getR zs = (told zs (K - 1), K, 0) := by
  unfold getR; rw [hz0, hk, if_neg (by omega), if_neg (by omega)]

theorem tup3 {a b c a' b' c' : Int} (h1 : a = a') (h2 : b = b') (h3 : c = c') : Ending.returned (.tuple #[.int .u64 a, .int .i64 b, .int .i64 c]) = .returned (.tuple #[.int .u64 a', .int .i64 b', .int .i64 c']) := by rw [h1, h2, h3]

theorem klen_of {z : Int} {q K : Nat} (hq : z / 64 = q) (h0 : 0 ≤ z) (h : (q = 0 ∧ K = 1) ∨ (q = 1 ∧ K = 2) ∨ (q = 2 ∧ K = 4) ∨ (q = 3 ∧ K = 8)) : klen z = K := by
  unfold klen
  rcases h with ⟨rfl, rfl⟩ | ⟨rfl, rfl⟩ | ⟨rfl, rfl⟩ | ⟨rfl, rfl⟩
  · rw [if_pos (by omega)]
  · rw [if_neg (by omega), if_pos (by omega)]
  · rw [if_neg (by omega), if_neg (by omega), if_pos (by omega)]
  · rw [if_neg (by omega), if_neg (by omega), if_neg (by omega)]

set_option maxHeartbeats 400000 in
theorem get_short (q K : Nat) (hqK : (q = 0 ∧ K = 1) ∨ (q = 1 ∧ K = 2) ∨ (q = 2 ∧ K = 4) ∨ (q = 3 ∧ K = 8)) (b off len cap : Nat) (z : Int) (w : World) (hq : z / 64 = q) (hl : len ≤ 1073741824) (hp : 0 < len) (hs : len < K)
    (hc0 : w.cell? ⟨b, off, none⟩ = some (.int .u8 z)) (_hb0 : 0 ≤ z ∧ z ≤ 255) (hL : Lens w) :
    Calls Tryz.prog 155 #[.slice (some ⟨b, off, none⟩) len cap] w fun e w' => e = .returned (.tuple #[.int .u64 0, .int .i64 0, .int .i64 4]) ∧ w' = w := by
  obtain ⟨l0, l1, l2, l3⟩ := hL
  have hne : ((len : Int) == 0) = false := by simp; omega
  rcases hqK with ⟨rfl, rfl⟩ | ⟨rfl, rfl⟩ | ⟨rfl, rfl⟩ | ⟨rfl, rfl⟩
  · omega
  all_goals
    go_enter Tryz.func155, Tryz.ntmps155
    go_wp2
    go_ret3
    exact ⟨rfl, rfl⟩

set_option maxHeartbeats 1000000 in
theorem get_whole (q K : Nat) (hqK : (q = 0 ∧ K = 1) ∨ (q = 1 ∧ K = 2) ∨ (q = 2 ∧ K = 4) ∨ (q = 3 ∧ K = 8)) (b off len cap : Nat) (zs : List Int) (z : Int) (w : World) (hz0 : zs[0]?.getD 0 = z) (hq : z / 64 = q) (hz : zs.length = len) (hl : len ≤ 1073741824) (hcap : len ≤ cap) (hs : K ≤ len)
    (hc : ∀ j : Nat, j < len → w.cell? ⟨b, off + j, none⟩ = some (.int .u8 (zs[j]?.getD 0))) (hb : ∀ j : Nat, 0 ≤ zs[j]?.getD 0 ∧ zs[j]?.getD 0 ≤ 255) (hL : Lens w) :
    Calls Tryz.prog 155 #[.slice (some ⟨b, off, none⟩) len cap] w fun e w' => e = .returned (.tuple #[.int .u64 (told zs (K - 1)), .int .i64 K, .int .i64 0]) ∧ w' = w := by
  have hp : 0 < len := by omega
  have hc0 : w.cell? ⟨b, off, none⟩ = some (.int .u8 z) := by rw [← hz0]; exact hc 0 hp
  have HB := fun (i : Nat) (hi : i ≤ 7) => told_bound zs i hi hb
  have HS := fun (i : Nat) (hi : i + 1 < len) => told_succ zs i (by rw [hz]; exact hi)
  have H0 : Hid (told zs 0 = z % 64) := by rw [← hz0]; exact told_zero zs
  obtain ⟨l0, l1, l2, l3⟩ := hL
  have hb0 : 0 ≤ z ∧ z ≤ 255 := by rw [← hz0]; exact hb 0
  have hne : ((len : Int) == 0) = false := by simp; omega
  have hm := mask63 _ hb0.1 hb0.2
  clear hz hz0
  rcases hqK with ⟨rfl, rfl⟩ | ⟨rfl, rfl⟩ | ⟨rfl, rfl⟩ | ⟨rfl, rfl⟩
  · by_cases hc1 : cap = 1
    all_goals
      go_enter Tryz.func155, Tryz.ntmps155
      go_wp2
      refine wp_loop_rounds 1 ?_
      rw [rounds_succ]
      go_wp2
      go_ret3
      exact ⟨tup3 H0.out.symm rfl rfl, rfl⟩
  · go_enter Tryz.func155, Tryz.ntmps155
    go_wp2
    go_loop [6, 31] (fun n i => ∃ k : Nat, k ≤ 1 ∧ i = .int .i64 k ∧ n = .int .u64 (told zs k)) (fun _ i => 1 - (intOf i).toNat)
    case atStart => exact ⟨0, by omega, rfl, by rw [H0.out]⟩
    case round =>
      obtain ⟨k, hk, rfl, rfl⟩ := hrel
      have hbd := HB k (by omega)
      by_cases hlt : k < 1
      · have hcx : w.cell? ⟨b, off + 1 + k, none⟩ = some (.int .u8 (zs[k + 1]?.getD 0)) := by have := hc (k + 1) (by omega); rw [show off + (k + 1) = off + 1 + k by omega] at this; exact this
        have hbk := hb (k + 1)
        have hlow : told zs k < 72057594037927936 := told_low zs k (by omega) hb
        have hj := join8 (told zs k) (zs[k + 1]?.getD 0) hbd.1 hlow hbk.1 hbk.2
        have hsn : Hid (told zs (k + 1) = 256 * told zs k + zs[k + 1]?.getD 0) := HS k (by omega)
        generalize told zs k = n at *
        generalize zs[k + 1]?.getD 0 = c at *
        clear HB HS hb hc H0
        go_wp2
        go_round
        case rel => exact ⟨k + 1, by omega, by go_num, by rw [hsn.out]⟩
        case measure => simp [intOf]; omega
      · have hkl : k = 1 := by omega
        subst hkl
        clear HB HS hb hc H0
        go_wp2
        go_ret3
        exact ⟨rfl, rfl⟩
  · go_enter Tryz.func155, Tryz.ntmps155
    go_wp2
    go_loop [6, 31] (fun n i => ∃ k : Nat, k ≤ 3 ∧ i = .int .i64 k ∧ n = .int .u64 (told zs k)) (fun _ i => 3 - (intOf i).toNat)
    case atStart => exact ⟨0, by omega, rfl, by rw [H0.out]⟩
    case round =>
      obtain ⟨k, hk, rfl, rfl⟩ := hrel
      have hbd := HB k (by omega)
      by_cases hlt : k < 3
      · have hcx : w.cell? ⟨b, off + 1 + k, none⟩ = some (.int .u8 (zs[k + 1]?.getD 0)) := by have := hc (k + 1) (by omega); rw [show off + (k + 1) = off + 1 + k by omega] at this; exact this
        have hbk := hb (k + 1)
        have hlow : told zs k < 72057594037927936 := told_low zs k (by omega) hb
        have hj := join8 (told zs k) (zs[k + 1]?.getD 0) hbd.1 hlow hbk.1 hbk.2
        have hsn : Hid (told zs (k + 1) = 256 * told zs k + zs[k + 1]?.getD 0) := HS k (by omega)
        generalize told zs k = n at *
        generalize zs[k + 1]?.getD 0 = c at *
        clear HB HS hb hc H0
        go_wp2
        go_round
        case rel => exact ⟨k + 1, by omega, by go_num, by rw [hsn.out]⟩
        case measure => simp [intOf]; omega
      · have hkl : k = 3 := by omega
        subst hkl
        clear HB HS hb hc H0
        go_wp2
        go_ret3
        exact ⟨rfl, rfl⟩
  · go_enter Tryz.func155, Tryz.ntmps155
    go_wp2
    go_loop [6, 31] (fun n i => ∃ k : Nat, k ≤ 7 ∧ i = .int .i64 k ∧ n = .int .u64 (told zs k)) (fun _ i => 7 - (intOf i).toNat)
    case atStart => exact ⟨0, by omega, rfl, by rw [H0.out]⟩
    case round =>
      obtain ⟨k, hk, rfl, rfl⟩ := hrel
      have hbd := HB k (by omega)
      by_cases hlt : k < 7
      · have hcx : w.cell? ⟨b, off + 1 + k, none⟩ = some (.int .u8 (zs[k + 1]?.getD 0)) := by have := hc (k + 1) (by omega); rw [show off + (k + 1) = off + 1 + k by omega] at this; exact this
        have hbk := hb (k + 1)
        have hlow : told zs k < 72057594037927936 := told_low zs k (by omega) hb
        have hj := join8 (told zs k) (zs[k + 1]?.getD 0) hbd.1 hlow hbk.1 hbk.2
        have hsn : Hid (told zs (k + 1) = 256 * told zs k + zs[k + 1]?.getD 0) := HS k (by omega)
        generalize told zs k = n at *
        generalize zs[k + 1]?.getD 0 = c at *
        clear HB HS hb hc H0
        go_wp2
        go_round
        case rel => exact ⟨k + 1, by omega, by go_num, by rw [hsn.out]⟩
        case measure => simp [intOf]; omega
      · have hkl : k = 7 := by omega
        subst hkl
        clear HB HS hb hc H0
        go_wp2
        go_ret3
        exact ⟨rfl, rfl⟩

theorem kinds (z : Int) (h0 : 0 ≤ z) (h1 : z ≤ 255) : ∃ q K : Nat, z / 64 = q ∧ ((q = 0 ∧ K = 1) ∨ (q = 1 ∧ K = 2) ∨ (q = 2 ∧ K = 4) ∨ (q = 3 ∧ K = 8)) := by
  rcases (show z / 64 = 0 ∨ z / 64 = 1 ∨ z / 64 = 2 ∨ z / 64 = 3 by omega) with h | h | h | h
  · exact ⟨0, 1, h, by omega⟩
  · exact ⟨1, 2, h, by omega⟩
  · exact ⟨2, 4, h, by omega⟩
  · exact ⟨3, 8, h, by omega⟩

/-- What Get answers, as a value. -/
def getV (zs : List Int) : Value := .tuple #[.int .u64 (getR zs).1, .int .i64 (getR zs).2.1, .int .i64 (getR zs).2.2]

theorem getV_none {zs : List Int} (h : zs.length = 0) : getV zs = .tuple #[.int .u64 0, .int .i64 0, .int .i64 4] := by
  unfold getV getR; rw [if_pos h]; rfl
theorem getV_short {zs : List Int} {z : Int} {K : Nat} (hz0 : zs[0]?.getD 0 = z) (hk : klen z = K) (h : zs.length < K) : getV zs = .tuple #[.int .u64 0, .int .i64 0, .int .i64 4] := by
  unfold getV; rw [getR_short hz0 hk h]; rfl
theorem getV_done {zs : List Int} {z : Int} {K : Nat} (hz0 : zs[0]?.getD 0 = z) (hk : klen z = K) (hp : 0 < zs.length) (h : K ≤ zs.length) : getV zs = .tuple #[.int .u64 (told zs (K - 1)), .int .i64 K, .int .i64 0] := by
  unfold getV; rw [getR_done hz0 hk hp h]

/-- varint.Get, at any bytes. -/
theorem get_any (a : Option Addr) (len cap : Nat) (zs : List Int) (w : World) (hz : zs.length = len) (hl : len ≤ 1073741824) (hcap : len ≤ cap) (hLies : LiesV w a zs) (hb : ∀ j : Nat, 0 ≤ zs[j]?.getD 0 ∧ zs[j]?.getD 0 ≤ 255) (hL : Lens w) :
    Calls Tryz.prog 155 #[.slice a len cap] w fun e w' => e = .returned (getV zs) ∧ w' = w := by
  by_cases hp : len = 0
  · subst hp; rw [getV_none hz]; exact get_none a cap w
  rcases hLies with h0 | ⟨b, off, rfl, _, hc⟩
  · rw [h0] at hz; exact absurd hz.symm hp
  obtain ⟨q, K, hq, hqK⟩ := kinds _ (hb 0).1 (hb 0).2
  have hk := klen_of hq (hb 0).1 hqK
  rw [hz] at hc
  by_cases hs : len < K
  · rw [getV_short rfl hk (by omega)]
    exact get_short q K hqK b off len cap _ w hq hl (by omega) hs (by exact hc 0 (by omega)) (hb 0) hL
  · rw [getV_done rfl hk (by omega) (by omega)]
    exact get_whole q K hqK b off len cap zs _ w rfl hq hz hl hcap (by omega) hc hb hL

end Go.Proofs.YtimhbjlmpojhoaaGreatDoor

/-! What varint.Put answers, and what it leaves in memory. -/
namespace Go.Proofs.YtimhbjlmpojhoaaGreatDoor
open Go.RowKit

end Go.Proofs.YtimhbjlmpojhoaaGreatDoor

/-! Frames as bytes, on lists: what was put is got; what was got may be put; what is cut off is short. No program in sight. -/
namespace Go.Proofs.YtimhbjlmpojhoaaGreatDoor.Fr
open Go

/-! ### Numbers -/
def szN (n : Nat) : Nat := if n < 64 then 1 else if n < 16384 then 2 else if n < 1073741824 then 4 else 8
def beN (x : Nat) : Nat → List By
  | 0 => []
  | k + 1 => BitVec.ofNat 8 (x / 256 ^ k) :: beN x k
def pfN (n : Nat) : Nat := if n < 64 then 0 else if n < 16384 then 16384 else if n < 1073741824 then 2147483648 else 13835058055282163712
def numL (n : Nat) : List By := beN (n + pfN n) (szN n)
def beV (acc : Nat) : List By → Nat
  | [] => acc
  | c :: r => beV (256 * acc + c.toNat) r
def getN : List By → Option (Nat × Nat)
  | [] => none
  | c :: r => if (c :: r).length < 2 ^ (c.toNat / 64) then none else some (beV (c.toNat % 64) (r.take (2 ^ (c.toNat / 64) - 1)), 2 ^ (c.toNat / 64))
theorem beN_length (x : Nat) : ∀ k, (beN x k).length = k
  | 0 => rfl
  | k + 1 => by rw [beN, List.length_cons, beN_length x k]
theorem numL_length (n : Nat) : (numL n).length = szN n := beN_length _ _
theorem szN_le (n : Nat) : szN n ≤ 8 := by unfold szN; split <;> (try split) <;> (try split) <;> omega
theorem beV_lt (l : List By) : ∀ acc, beV acc l < (acc + 1) * 256 ^ l.length := by
  induction l with
  | nil => intro acc; simp [beV]
  | cons c r ih =>
    intro acc
    rw [beV]
    refine Nat.lt_of_lt_of_le (ih _) ?_
    rw [List.length_cons, Nat.pow_succ, Nat.mul_comm (256 ^ r.length) 256, ← Nat.mul_assoc]
    exact Nat.mul_le_mul_right _ (by have := c.isLt; omega)
/-- What is read fits, in as many bytes as it has at most. -/
theorem getN_some {b : List By} {n k : Nat} (h : getN b = some (n, k)) : 1 ≤ k ∧ k ≤ b.length ∧ n ≤ 4611686018427387903 ∧ szN n ≤ k := by
  cases b with
  | nil => cases h
  | cons c r =>
    rw [getN] at h
    split at h
    · cases h
    · rename_i hlt
      simp only [Option.some.injEq, Prod.mk.injEq] at h
      obtain ⟨h1, h2⟩ := h
      have hc := c.isLt
      have hq : c.toNat / 64 = 0 ∨ c.toNat / 64 = 1 ∨ c.toNat / 64 = 2 ∨ c.toNat / 64 = 3 := by omega
      have hl := beV_lt (r.take (2 ^ (c.toNat / 64) - 1)) (c.toNat % 64)
      rw [h1, List.length_take] at hl
      have hm : c.toNat % 64 + 1 ≤ 64 := by omega
      have hl2 : n < 64 * 256 ^ (min (2 ^ (c.toNat / 64) - 1) r.length) := Nat.lt_of_lt_of_le hl (Nat.mul_le_mul_right _ hm)
      have hmin : min (2 ^ (c.toNat / 64) - 1) r.length = 2 ^ (c.toNat / 64) - 1 := by simp only [List.length_cons] at hlt; omega
      rw [hmin] at hl2
      subst h2
      refine ⟨Nat.pow_pos (by decide), by omega, ?_⟩
      rcases hq with q | q | q | q <;> rw [q] at hl2 ⊢ <;> simp at hl2 ⊢ <;> unfold szN <;> split <;> (try split) <;> (try split) <;> omega
/-! ### Reading -/
def R (α : Type) : Type := List By → Except Nat (α × List By)
def numR : R Nat := fun b => match getN b with
  | none => .error 4
  | some (n, k) => .ok (n, b.drop k)
def dataR (n : Nat) : R (List By) := fun b => if b.length < n then .error 4 else .ok (b.take n, b.drop n)
def thenR {α β : Type} (m : R α) (f : α → R β) : R β := fun b => match m b with
  | .ok (a, b') => f a b'
  | .error e => .error e
def okR {α : Type} (a : α) : R α := fun b => .ok (a, b)
def noR {α : Type} (e : Nat) : R α := fun _ => .error e
/-! ### Frames -/
structure Frame where
  kind : Nat
  stream : Nat
  offset : Nat
  limit : Nat
  code : Nat
  fin : Bool
  data : List By
  ranges : List (Nat × Nat)
def f0 : Frame := ⟨0, 0, 0, 0, 0, false, [], []⟩
/-- Ranges that are a set. -/
def setL : List (Nat × Nat) → Prop
  | [] => True
  | [(a, b)] => a ≤ b ∧ b ≤ 4611686018427387903
  | (a, b) :: (c, d) :: r => a ≤ b ∧ b ≤ 4611686018427387903 ∧ b + 1 < c ∧ setL ((c, d) :: r)
def bareF (f : Frame) (st off lim co fi da ra : Bool) : Prop :=
  (st = true ∨ f.stream = 0) ∧ (off = true ∨ f.offset = 0) ∧ (lim = true ∨ f.limit = 0) ∧ (co = true ∨ f.code = 0) ∧ (fi = true ∨ f.fin = false) ∧ (da = true ∨ f.data = []) ∧ (ra = true ∨ f.ranges = [])
def numsF (f : Frame) : Prop :=
  f.stream ≤ 4611686018427387903 ∧ f.offset ≤ 4611686018427387903 ∧ f.limit ≤ 4611686018427387903 ∧ f.code ≤ 4611686018427387903 ∧ f.offset + f.data.length ≤ 4611686018427387903
def mayF (f : Frame) : Prop := numsF f ∧
  match f.kind with
  | 1 => bareF f false false true false false false false ∧ 1 ≤ f.limit ∧ f.limit ≤ 65536
  | 2 => bareF f false false false false false false false
  | 3 => bareF f false false true false false false true ∧ f.ranges ≠ [] ∧ f.ranges.length ≤ 64 ∧ setL f.ranges
  | 4 => bareF f true false true true false false false
  | 5 => bareF f true false false true false false false
  | 6 => bareF f false true false false false true false
  | 7 => bareF f true true false false true true false
  | 8 => bareF f false false true false false false false
  | 9 => bareF f true false true false false false false
  | 10 => bareF f false false true false true false false ∧ f.limit ≤ 1152921504606846976
  | 11 => bareF f false false true false false false false
  | 12 => bareF f true false true false false false false
  | 13 => bareF f false false false true true true false
  | 14 => bareF f false false false false false false false
  | _ => False

/-- The ranges of an answer, from the last one back. -/
def ackT : Nat → List (Nat × Nat) → List By
  | _, [] => []
  | from_, (a, b) :: r => numL (from_ - b - 2) ++ (numL (b - a) ++ ackT a r)
def ackB (lim : Nat) : List (Nat × Nat) → List By
  | [] => []
  | (a, b) :: r => numL b ++ (numL lim ++ (numL r.length ++ (numL (b - a) ++ ackT a r)))
def sizedL (d : List By) : List By := numL d.length ++ d
def putF (f : Frame) : List By :=
  match f.kind with
  | 1 => List.replicate f.limit 0
  | 2 => numL 1
  | 3 => numL 2 ++ ackB f.limit f.ranges.reverse
  | 4 => numL 4 ++ (numL f.stream ++ (numL f.code ++ numL f.limit))
  | 5 => numL 5 ++ (numL f.stream ++ numL f.code)
  | 6 => numL 6 ++ (numL f.offset ++ sizedL f.data)
  | 7 => numL ((if 0 < f.offset then 14 else 10) + (if f.fin then 1 else 0)) ++ (numL f.stream ++ ((if 0 < f.offset then numL f.offset else []) ++ sizedL f.data))
  | 8 => numL 16 ++ numL f.limit
  | 9 => numL 17 ++ (numL f.stream ++ numL f.limit)
  | 10 => numL (18 + (if f.fin then 1 else 0)) ++ numL f.limit
  | 11 => numL 20 ++ numL f.limit
  | 12 => numL 21 ++ (numL f.stream ++ numL f.limit)
  | 13 => numL (28 + (if f.fin then 1 else 0)) ++ (numL f.code ++ ((if f.fin then [] else numL 0) ++ sizedL f.data))
  | _ => numL 30

def ackLoop : Nat → Nat → R (List (Nat × Nat))
  | 0, to => thenR numR fun k => if to < k then noR 5 else okR [(to - k, to)]
  | m + 1, to => thenR numR fun k => if to < k then noR 5 else thenR numR fun gap => if to - k < gap + 2 then noR 5 else thenR (ackLoop m (to - k - gap - 2)) fun l => okR ((to - k, to) :: l)
def placedR (offset : Nat) : R (List By) := thenR numR fun n => if 4611686018427387903 < offset + n then noR 5 else dataR n
def restR (offset : Nat) : R (List By) := fun b => if 4611686018427387903 < offset + b.length then .error 5 else .ok (b, [])
def ackR : R Frame := thenR numR fun to => thenR numR fun lim => thenR numR fun n => if 64 ≤ n then noR 3 else thenR (ackLoop n to) fun l => okR { f0 with kind := 3, limit := lim, ranges := l.reverse }
def streamR (k : Nat) : R Frame := thenR numR fun st => thenR (if k / 4 % 2 = 1 then numR else okR 0) fun off => thenR (if k / 2 % 2 = 1 then placedR off else restR off) fun d => okR { f0 with kind := 7, stream := st, offset := off, fin := decide (k % 2 = 1), data := d }
def bodyR (k : Nat) : R Frame :=
  match k with
  | 0 => okR { f0 with kind := 1, limit := 1 }
  | 1 => okR { f0 with kind := 2 }
  | 2 => ackR
  | 4 => thenR numR fun st => thenR numR fun co => thenR numR fun lim => okR { f0 with kind := 4, stream := st, code := co, limit := lim }
  | 5 => thenR numR fun st => thenR numR fun co => okR { f0 with kind := 5, stream := st, code := co }
  | 6 => thenR numR fun off => thenR (placedR off) fun d => okR { f0 with kind := 6, offset := off, data := d }
  | 8 => streamR 8
  | 9 => streamR 9
  | 10 => streamR 10
  | 11 => streamR 11
  | 12 => streamR 12
  | 13 => streamR 13
  | 14 => streamR 14
  | 15 => streamR 15
  | 16 => thenR numR fun lim => okR { f0 with kind := 8, limit := lim }
  | 17 => thenR numR fun st => thenR numR fun lim => okR { f0 with kind := 9, stream := st, limit := lim }
  | 18 => thenR numR fun lim => if 1152921504606846976 < lim then noR 5 else okR { f0 with kind := 10, limit := lim }
  | 19 => thenR numR fun lim => if 1152921504606846976 < lim then noR 5 else okR { f0 with kind := 10, limit := lim, fin := true }
  | 20 => thenR numR fun lim => okR { f0 with kind := 11, limit := lim }
  | 21 => thenR numR fun st => thenR numR fun lim => okR { f0 with kind := 12, stream := st, limit := lim }
  | 28 => thenR numR fun co => thenR numR fun z => if z = 0 then thenR (placedR 0) fun d => okR { f0 with kind := 13, code := co, data := d } else noR 5
  | 29 => thenR numR fun co => thenR (placedR 0) fun d => okR { f0 with kind := 13, code := co, data := d, fin := true }
  | 30 => okR { f0 with kind := 14 }
  | _ => noR 5
def frameR : R Frame := fun b => match getN b with
  | none => .error 4
  | some (n, k) => if k = szN n then bodyR n (b.drop k) else .error 5
/-! ### What was put is got -/
/-- A set from its end. -/
def setR : List (Nat × Nat) → Prop
  | [] => True
  | [(a, b)] => a ≤ b ∧ b ≤ 4611686018427387903
  | (a, b) :: (c, d) :: r => a ≤ b ∧ b ≤ 4611686018427387903 ∧ d + 1 < a ∧ setR ((c, d) :: r)
theorem setR_tail {x : Nat × Nat} {r : List (Nat × Nat)} (h : setR (x :: r)) : setR r := by
  obtain ⟨a, b⟩ := x
  cases r with
  | nil => trivial
  | cons y r => obtain ⟨c, d⟩ := y; exact h.2.2.2
theorem setR_head {a b : Nat} {r : List (Nat × Nat)} (h : setR ((a, b) :: r)) : a ≤ b ∧ b ≤ 4611686018427387903 := by
  cases r with
  | nil => exact h
  | cons y r => obtain ⟨c, d⟩ := y; exact ⟨h.1, h.2.1⟩
/-! ### All frames -/
def putAll : List Frame → List By
  | [] => []
  | f :: l => putF f ++ putAll l
/-- No padding meets another one. -/
def sepL : Bool → List Frame → Prop
  | _, [] => True
  | p, f :: l => ¬ (p = true ∧ f.kind = 1) ∧ sepL (f.kind == 1) l
def padded : List Frame → Bool
  | [] => false
  | f :: _ => f.kind == 1
def more (f : Frame) : Frame := { f with limit := f.limit + 1 }
def getLoop : Nat → List By → List Frame → Except Nat (List Frame)
  | _, [], acc => .ok acc
  | 0, _ :: _, _ => .error 0
  | fuel + 1, c :: b, acc =>
    if c = 0 ∧ padded acc = true then (if (acc.headD f0).limit = 65536 then .error 3 else getLoop fuel b (more (acc.headD f0) :: acc.tail))
    else if acc.length = 1024 then .error 3
    else match frameR (c :: b) with
      | .error e => .error e
      | .ok (f, b') => getLoop fuel b' (f :: acc)
def getAll (b : List By) : Except Nat (List Frame) :=
  if 1048576 < b.length then .error 3 else match getLoop b.length b [] with
    | .error e => .error e
    | .ok l => .ok l.reverse

/-! What is read gets less. -/
def Shr {α : Type} (m : R α) : Prop := ∀ b a b', m b = .ok (a, b') → b'.length ≤ b.length
theorem shr_num : Shr numR := by
  intro b a b' h
  unfold numR at h
  split at h
  · cases h
  · injection h with h
    injection h with _ h
    rw [← h, List.length_drop]
    omega
theorem shr_ok {α : Type} (a : α) : Shr (okR a) := by
  intro b x b' h
  injection h with h
  injection h with _ h
  rw [h]
  exact Nat.le_refl _
theorem shr_no {α : Type} (e : Nat) : Shr (noR e : R α) := by
  intro b a b' h
  cases h
theorem shr_then {α β : Type} {m : R α} {f : α → R β} (hm : Shr m) (hf : ∀ a, Shr (f a)) : Shr (thenR m f) := by
  intro b a b' h
  unfold thenR at h
  split at h
  · rename_i x y e
    exact Nat.le_trans (hf _ _ _ _ h) (hm _ _ _ e)
  · cases h
theorem shr_ite {α : Type} {c : Prop} [Decidable c] {m n : R α} (hm : Shr m) (hn : Shr n) : Shr (if c then m else n) := by
  split
  · exact hm
  · exact hn
theorem shr_data (n : Nat) : Shr (dataR n) := by
  intro b a b' h
  unfold dataR at h
  split at h
  · cases h
  · injection h with h
    injection h with _ h
    rw [← h, List.length_drop]
    omega
theorem shr_placed (o : Nat) : Shr (placedR o) := shr_then shr_num fun _ => shr_ite (shr_no _) (shr_data _)
theorem shr_rest (o : Nat) : Shr (restR o) := by
  intro b a b' h
  unfold restR at h
  split at h
  · cases h
  · injection h with h
    injection h with _ h
    rw [← h]
    exact Nat.zero_le _
theorem shr_ackLoop : ∀ m to, Shr (ackLoop m to)
  | 0, _ => shr_then shr_num fun _ => shr_ite (shr_no _) (shr_ok _)
  | m + 1, _ => shr_then shr_num fun _ => shr_ite (shr_no _) (shr_then shr_num fun _ => shr_ite (shr_no _) (shr_then (shr_ackLoop m _) fun _ => shr_ok _))
theorem shr_ack : Shr ackR := shr_then shr_num fun _ => shr_then shr_num fun _ => shr_then shr_num fun _ => shr_ite (shr_no _) (shr_then (shr_ackLoop _ _) fun _ => shr_ok _)
theorem shr_stream (k : Nat) : Shr (streamR k) := shr_then shr_num fun _ => shr_then (shr_ite shr_num (shr_ok _)) fun _ => shr_then (shr_ite (shr_placed _) (shr_rest _)) fun _ => shr_ok _
theorem shr_body (k : Nat) : Shr (bodyR k) := by
  unfold bodyR
  split
  all_goals first
    | exact shr_ok _
    | exact shr_no _
    | exact shr_ack
    | exact shr_stream _
    | exact shr_then shr_num fun _ => shr_ok _
    | exact shr_then shr_num fun _ => shr_then shr_num fun _ => shr_ok _
    | exact shr_then shr_num fun _ => shr_then shr_num fun _ => shr_then shr_num fun _ => shr_ok _
    | exact shr_then shr_num fun _ => shr_then (shr_placed _) fun _ => shr_ok _
    | exact shr_then shr_num fun _ => shr_ite (shr_no _) (shr_ok _)
    | exact shr_then shr_num fun _ => shr_then shr_num fun _ => shr_ite (shr_then (shr_placed _) fun _ => shr_ok _) (shr_no _)
theorem frameR_less {b : List By} {f : Frame} {b' : List By} (h : frameR b = .ok (f, b')) : b'.length < b.length := by
  unfold frameR at h
  split at h
  · cases h
  · rename_i n k e
    obtain ⟨h1, h2, _⟩ := getN_some e
    split at h
    · have := shr_body n _ _ _ h
      rw [List.length_drop] at this
      omega
    · cases h
theorem getLoop_fuel : ∀ (fuel fuel' : Nat) (b : List By) (acc : List Frame), b.length ≤ fuel → b.length ≤ fuel' → getLoop fuel b acc = getLoop fuel' b acc
  | _, _, [], _, _, _ => by rw [getLoop, getLoop]
  | 0, _, _ :: _, _, h, _ => by simp at h
  | _, 0, _ :: _, _, _, h => by simp at h
  | fuel + 1, fuel' + 1, c :: b, acc, h1, h2 => by
    simp only [List.length_cons] at h1 h2
    rw [getLoop, getLoop, getLoop_fuel fuel fuel' b _ (by omega) (by omega)]
    split
    · rfl
    · split
      · rfl
      · cases hf : frameR (c :: b) with
        | error e => rfl
        | ok x =>
          obtain ⟨f, b'⟩ := x
          have := frameR_less hf
          simp only [List.length_cons] at this
          exact getLoop_fuel fuel fuel' b' _ (by omega) (by omega)

/-! What was put is got. -/
theorem putAll_append : ∀ (l m : List Frame), putAll (l ++ m) = putAll l ++ putAll m
  | [], _ => rfl
  | f :: l, m => by rw [List.cons_append, putAll, putAll, putAll_append l m, List.append_assoc]

/-! ### What was got may be put -/
theorem thenR_inv {α β : Type} {m : R α} {f : α → R β} {b : List By} {x : β} {b' : List By} (h : thenR m f b = .ok (x, b')) : ∃ a b1, m b = .ok (a, b1) ∧ f a b1 = .ok (x, b') := by
  unfold thenR at h
  split at h
  · rename_i a b1 e
    exact ⟨a, b1, e, h⟩
  · cases h
theorem okR_inv {α : Type} {a x : α} {b b' : List By} (h : okR a b = .ok (x, b')) : x = a ∧ b' = b := by
  injection h with h
  injection h with h1 h2
  exact ⟨h1.symm, h2.symm⟩
theorem noR_inv {α : Type} {e : Nat} {x : α} {b b' : List By} (h : (noR e : R α) b = .ok (x, b')) : False := by cases h
theorem numR_inv {b : List By} {n : Nat} {b' : List By} (h : numR b = .ok (n, b')) : n ≤ 4611686018427387903 ∧ szN n + b'.length ≤ b.length := by
  unfold numR at h
  split at h
  · cases h
  · rename_i x k e
    injection h with h
    injection h with h1 h2
    obtain ⟨q1, q2, q3, q4⟩ := getN_some e
    subst h1
    rw [← h2, List.length_drop]
    exact ⟨q3, by omega⟩
theorem dataR_inv {n : Nat} {b : List By} {d b' : List By} (h : dataR n b = .ok (d, b')) : d.length = n ∧ d.length + b'.length = b.length := by
  unfold dataR at h
  split at h
  · cases h
  · injection h with h
    injection h with h1 h2
    rw [← h1, ← h2, List.length_take, List.length_drop]
    omega
theorem placedR_inv {o : Nat} {b : List By} {d b' : List By} (h : placedR o b = .ok (d, b')) : o + d.length ≤ 4611686018427387903 ∧ (sizedL d).length + b'.length ≤ b.length := by
  unfold placedR at h
  obtain ⟨n, b1, h1, h2⟩ := thenR_inv h
  obtain ⟨q1, q2⟩ := numR_inv h1
  split at h2
  · cases h2
  · obtain ⟨q3, q4⟩ := dataR_inv h2
    unfold sizedL
    rw [List.length_append, numL_length, q3]
    omega
theorem restR_inv {o : Nat} {b : List By} {d b' : List By} (h : restR o b = .ok (d, b')) : o + d.length ≤ 4611686018427387903 ∧ d = b ∧ b' = [] := by
  unfold restR at h
  split at h
  · cases h
  · injection h with h
    injection h with h1 h2
    subst h1 h2
    exact ⟨by omega, rfl, rfl⟩
theorem setL_snoc : ∀ (r : List (Nat × Nat)) (a b : Nat), setL r → (∀ x, r.getLast? = some x → x.2 + 1 < a) → a ≤ b → b ≤ 4611686018427387903 → setL (r ++ [(a, b)])
  | [], _, _, _, _, h1, h2 => ⟨h1, h2⟩
  | [(c, d)], a, b, h, hl, h1, h2 => ⟨h.1, h.2, hl (c, d) rfl, h1, h2⟩
  | (c, d) :: (e, f) :: r, a, b, h, hl, h1, h2 => ⟨h.1, h.2.1, h.2.2.1, setL_snoc ((e, f) :: r) a b h.2.2.2 (fun x hx => hl x (by rw [List.getLast?_cons_cons]; exact hx)) h1 h2⟩
theorem setL_reverse : ∀ (l : List (Nat × Nat)), setR l → setL l.reverse
  | [], _ => trivial
  | (a, b) :: r, h => by
    rw [List.reverse_cons]
    obtain ⟨h1, h2⟩ := setR_head h
    refine setL_snoc _ a b (setL_reverse r (setR_tail h)) (fun x hx => ?_) h1 h2
    rw [List.getLast?_reverse] at hx
    cases r with
    | nil => cases hx
    | cons y r =>
      obtain ⟨c, d⟩ := y
      simp only [List.head?_cons, Option.some.injEq] at hx
      subst hx
      exact h.2.2.1
theorem ackLoop_inv : ∀ (m to : Nat) (b : List By) (l : List (Nat × Nat)) (b' : List By), to ≤ 4611686018427387903 → ackLoop m to b = .ok (l, b') → ∃ a r, l = (a, to) :: r ∧ r.length = m ∧ setR l ∧ szN (to - a) + (ackT a r).length + b'.length ≤ b.length
  | 0, to, b, l, b', ht, h => by
    rw [ackLoop] at h
    obtain ⟨k, b1, h1, h2⟩ := thenR_inv h
    obtain ⟨q1, q2⟩ := numR_inv h1
    split at h2
    · cases h2
    · obtain ⟨e1, e2⟩ := okR_inv h2
      subst e1 e2
      refine ⟨to - k, [], rfl, rfl, ⟨by omega, ht⟩, ?_⟩
      rw [show to - (to - k) = k by omega, ackT, List.length_nil]
      omega
  | m + 1, to, b, l, b', ht, h => by
    rw [ackLoop] at h
    obtain ⟨k, b1, h1, h2⟩ := thenR_inv h
    obtain ⟨q1, q2⟩ := numR_inv h1
    split at h2
    · cases h2
    · obtain ⟨gap, b2, h3, h4⟩ := thenR_inv h2
      obtain ⟨q3, q4⟩ := numR_inv h3
      split at h4
      · cases h4
      · obtain ⟨l', b3, h5, h6⟩ := thenR_inv h4
        obtain ⟨a, r, e, hl, hs, hq⟩ := ackLoop_inv m _ _ _ _ (by omega) h5
        obtain ⟨e1, e2⟩ := okR_inv h6
        subst e1 e2 e
        refine ⟨to - k, (a, to - k - gap - 2) :: r, rfl, by rw [List.length_cons, hl], ⟨by omega, ht, by omega, hs⟩, ?_⟩
        rw [show to - (to - k) = k by omega, ackT, List.length_append, List.length_append, numL_length, numL_length, show to - k - (to - k - gap - 2) - 2 = gap by omega]
        omega
theorem bare_all {f : Frame} {st off lim co fi da ra : Bool} (h1 : st = true ∨ f.stream = 0) (h2 : off = true ∨ f.offset = 0) (h3 : lim = true ∨ f.limit = 0) (h4 : co = true ∨ f.code = 0) (h5 : fi = true ∨ f.fin = false) (h6 : da = true ∨ f.data = []) (h7 : ra = true ∨ f.ranges = []) : bareF f st off lim co fi da ra := ⟨h1, h2, h3, h4, h5, h6, h7⟩
/-- What a body tells may be; its bytes are no more than those that were read, but for one without a length. -/
def Told (k : Nat) (b : List By) (f : Frame) (b' : List By) : Prop := mayF f ∧ ((putF f).length + b'.length ≤ szN k + b.length ∨ b' = [] ∧ (putF f).length ≤ szN k + b.length + 8) ∧ (f.kind = 1 → k = 0)
theorem szN_small {n : Nat} (h : n < 64) : szN n = 1 := by unfold szN; rw [if_pos h]
theorem told_ack {b : List By} {f : Frame} {b' : List By} (h : ackR b = .ok (f, b')) : Told 2 b f b' := by
  unfold ackR at h
  obtain ⟨to, b1, h1, h⟩ := thenR_inv h
  obtain ⟨lim, b2, h2, h⟩ := thenR_inv h
  obtain ⟨n, b3, h3, h⟩ := thenR_inv h
  obtain ⟨q1, q2⟩ := numR_inv h1
  obtain ⟨q3, q4⟩ := numR_inv h2
  obtain ⟨q5, q6⟩ := numR_inv h3
  split at h
  · cases h
  · rename_i hn
    obtain ⟨l, b4, h4, h⟩ := thenR_inv h
    obtain ⟨a, r, e, hl, hs, hq⟩ := ackLoop_inv n to b3 l b4 q1 h4
    obtain ⟨e1, e2⟩ := okR_inv h
    subst e1 e2 e
    refine ⟨⟨⟨by simp [f0], by simp [f0], q3, by simp [f0], by simp [f0]⟩, bare_all (.inr rfl) (.inr rfl) (.inl rfl) (.inr rfl) (.inr rfl) (.inr rfl) (.inl rfl), ?_, ?_, setL_reverse _ hs⟩, .inl ?_, fun e => by cases e⟩
    · intro e
      have := congrArg List.length e
      simp at this
    · show ((a, to) :: r).reverse.length ≤ 64
      rw [List.length_reverse, List.length_cons]
      omega
    · show (numL 2 ++ ackB lim ((a, to) :: r).reverse.reverse).length + _ ≤ _
      rw [List.reverse_reverse, ackB]
      simp only [List.length_append, numL_length]
      rw [hl]
      omega
theorem told_stream (k : Nat) (hk : k < 64) {b : List By} {f : Frame} {b' : List By} (h : streamR k b = .ok (f, b')) : Told k b f b' := by
  unfold streamR at h
  obtain ⟨st, b1, h1, h⟩ := thenR_inv h
  obtain ⟨off, b2, h2, h⟩ := thenR_inv h
  obtain ⟨d, b3, h3, h⟩ := thenR_inv h
  obtain ⟨e1, e2⟩ := okR_inv h
  obtain ⟨q1, q2⟩ := numR_inv h1
  subst e1 e2
  have hoff : off ≤ 4611686018427387903 ∧ (if 0 < off then szN off else 0) + b2.length ≤ b1.length := by
    split at h2
    · obtain ⟨q3, q4⟩ := numR_inv h2
      exact ⟨q3, by split <;> omega⟩
    · obtain ⟨e3, e4⟩ := okR_inv h2
      subst e3 e4
      exact ⟨by omega, by simp⟩
  have hput : (putF { f0 with kind := 7, stream := st, offset := off, fin := decide (k % 2 = 1), data := d }).length = 1 + (szN st + ((if 0 < off then szN off else 0) + (szN d.length + d.length))) := by
    show (numL ((if 0 < off then 14 else 10) + (if decide (k % 2 = 1) = true then 1 else 0)) ++ (numL st ++ ((if 0 < off then numL off else []) ++ sizedL d))).length = _
    rw [List.length_append, List.length_append, List.length_append, numL_length, numL_length, szN_small (by split <;> split <;> omega)]
    unfold sizedL
    rw [List.length_append, numL_length]
    split
    · rw [numL_length]
    · rfl
  have hsk := szN_small hk
  have hnum : ∀ (hd : off + d.length ≤ 4611686018427387903), mayF { f0 with kind := 7, stream := st, offset := off, fin := decide (k % 2 = 1), data := d } := fun hd =>
    ⟨⟨q1, hoff.1, by simp [f0], by simp [f0], hd⟩, bare_all (.inl rfl) (.inl rfl) (.inr rfl) (.inr rfl) (.inl rfl) (.inl rfl) (.inr rfl)⟩
  split at h3
  · obtain ⟨p1, p2⟩ := placedR_inv h3
    refine ⟨hnum p1, .inl ?_, fun e => by cases e⟩
    rw [hput]
    unfold sizedL at p2
    rw [List.length_append, numL_length] at p2
    omega
  · obtain ⟨p1, p2, p3⟩ := restR_inv h3
    subst p2 p3
    refine ⟨hnum p1, .inr ⟨rfl, ?_⟩, fun e => by cases e⟩
    rw [hput]
    have := szN_le d.length
    omega
theorem told_body (k : Nat) {b : List By} {f : Frame} {b' : List By} (h : bodyR k b = .ok (f, b')) : Told k b f b' := by
  unfold bodyR at h
  split at h
  · obtain ⟨e1, e2⟩ := okR_inv h
    subst e1 e2
    exact ⟨⟨⟨by simp [f0], by simp [f0], by simp, by simp [f0], by simp [f0]⟩, bare_all (.inr rfl) (.inr rfl) (.inl rfl) (.inr rfl) (.inr rfl) (.inr rfl) (.inr rfl), by simp, by simp⟩, .inl (by show (List.replicate 1 (0 : By)).length + _ ≤ _; rw [List.length_replicate, szN_small (by omega)]; omega), fun _ => rfl⟩
  · obtain ⟨e1, e2⟩ := okR_inv h
    subst e1 e2
    exact ⟨⟨⟨by simp [f0], by simp [f0], by simp [f0], by simp [f0], by simp [f0]⟩, bare_all (.inr rfl) (.inr rfl) (.inr rfl) (.inr rfl) (.inr rfl) (.inr rfl) (.inr rfl)⟩, .inl (by show (numL 1).length + _ ≤ _; rw [numL_length]; omega), fun e => by cases e⟩
  · exact told_ack h
  · obtain ⟨st, b1, h1, h⟩ := thenR_inv h
    obtain ⟨co, b2, h2, h⟩ := thenR_inv h
    obtain ⟨lim, b3, h3, h⟩ := thenR_inv h
    obtain ⟨e1, e2⟩ := okR_inv h
    obtain ⟨q1, q2⟩ := numR_inv h1
    obtain ⟨q3, q4⟩ := numR_inv h2
    obtain ⟨q5, q6⟩ := numR_inv h3
    subst e1 e2
    exact ⟨⟨⟨q1, by simp [f0], q5, q3, by simp [f0]⟩, bare_all (.inl rfl) (.inr rfl) (.inl rfl) (.inl rfl) (.inr rfl) (.inr rfl) (.inr rfl)⟩, .inl (by show (numL 4 ++ (numL st ++ (numL co ++ numL lim))).length + _ ≤ _; simp only [List.length_append, numL_length]; omega), fun e => by cases e⟩
  · obtain ⟨st, b1, h1, h⟩ := thenR_inv h
    obtain ⟨co, b2, h2, h⟩ := thenR_inv h
    obtain ⟨e1, e2⟩ := okR_inv h
    obtain ⟨q1, q2⟩ := numR_inv h1
    obtain ⟨q3, q4⟩ := numR_inv h2
    subst e1 e2
    exact ⟨⟨⟨q1, by simp [f0], by simp [f0], q3, by simp [f0]⟩, bare_all (.inl rfl) (.inr rfl) (.inr rfl) (.inl rfl) (.inr rfl) (.inr rfl) (.inr rfl)⟩, .inl (by show (numL 5 ++ (numL st ++ numL co)).length + _ ≤ _; simp only [List.length_append, numL_length]; omega), fun e => by cases e⟩
  · obtain ⟨off, b1, h1, h⟩ := thenR_inv h
    obtain ⟨d, b2, h2, h⟩ := thenR_inv h
    obtain ⟨e1, e2⟩ := okR_inv h
    obtain ⟨q1, q2⟩ := numR_inv h1
    obtain ⟨q3, q4⟩ := placedR_inv h2
    subst e1 e2
    exact ⟨⟨⟨by simp [f0], q1, by simp [f0], by simp [f0], q3⟩, bare_all (.inr rfl) (.inl rfl) (.inr rfl) (.inr rfl) (.inr rfl) (.inl rfl) (.inr rfl)⟩, .inl (by show (numL 6 ++ (numL off ++ sizedL d)).length + _ ≤ _; simp only [List.length_append, numL_length]; omega), fun e => by cases e⟩
  · exact told_stream 8 (by omega) h
  · exact told_stream 9 (by omega) h
  · exact told_stream 10 (by omega) h
  · exact told_stream 11 (by omega) h
  · exact told_stream 12 (by omega) h
  · exact told_stream 13 (by omega) h
  · exact told_stream 14 (by omega) h
  · exact told_stream 15 (by omega) h
  · obtain ⟨lim, b1, h1, h⟩ := thenR_inv h
    obtain ⟨e1, e2⟩ := okR_inv h
    obtain ⟨q1, q2⟩ := numR_inv h1
    subst e1 e2
    exact ⟨⟨⟨by simp [f0], by simp [f0], q1, by simp [f0], by simp [f0]⟩, bare_all (.inr rfl) (.inr rfl) (.inl rfl) (.inr rfl) (.inr rfl) (.inr rfl) (.inr rfl)⟩, .inl (by show (numL 16 ++ numL lim).length + _ ≤ _; simp only [List.length_append, numL_length]; omega), fun e => by cases e⟩
  · obtain ⟨st, b1, h1, h⟩ := thenR_inv h
    obtain ⟨lim, b2, h2, h⟩ := thenR_inv h
    obtain ⟨e1, e2⟩ := okR_inv h
    obtain ⟨q1, q2⟩ := numR_inv h1
    obtain ⟨q3, q4⟩ := numR_inv h2
    subst e1 e2
    exact ⟨⟨⟨q1, by simp [f0], q3, by simp [f0], by simp [f0]⟩, bare_all (.inl rfl) (.inr rfl) (.inl rfl) (.inr rfl) (.inr rfl) (.inr rfl) (.inr rfl)⟩, .inl (by show (numL 17 ++ (numL st ++ numL lim)).length + _ ≤ _; simp only [List.length_append, numL_length]; omega), fun e => by cases e⟩
  · obtain ⟨lim, b1, h1, h⟩ := thenR_inv h
    obtain ⟨q1, q2⟩ := numR_inv h1
    split at h
    · cases h
    · obtain ⟨e1, e2⟩ := okR_inv h
      subst e1 e2
      exact ⟨⟨⟨by simp [f0], by simp [f0], q1, by simp [f0], by simp [f0]⟩, bare_all (.inr rfl) (.inr rfl) (.inl rfl) (.inr rfl) (.inl rfl) (.inr rfl) (.inr rfl), by show lim ≤ _; omega⟩, .inl (by show (numL 18 ++ numL lim).length + _ ≤ _; simp only [List.length_append, numL_length]; omega), fun e => by cases e⟩
  · obtain ⟨lim, b1, h1, h⟩ := thenR_inv h
    obtain ⟨q1, q2⟩ := numR_inv h1
    split at h
    · cases h
    · obtain ⟨e1, e2⟩ := okR_inv h
      subst e1 e2
      exact ⟨⟨⟨by simp [f0], by simp [f0], q1, by simp [f0], by simp [f0]⟩, bare_all (.inr rfl) (.inr rfl) (.inl rfl) (.inr rfl) (.inl rfl) (.inr rfl) (.inr rfl), by show lim ≤ _; omega⟩, .inl (by show (numL 19 ++ numL lim).length + _ ≤ _; simp only [List.length_append, numL_length]; omega), fun e => by cases e⟩
  · obtain ⟨lim, b1, h1, h⟩ := thenR_inv h
    obtain ⟨e1, e2⟩ := okR_inv h
    obtain ⟨q1, q2⟩ := numR_inv h1
    subst e1 e2
    exact ⟨⟨⟨by simp [f0], by simp [f0], q1, by simp [f0], by simp [f0]⟩, bare_all (.inr rfl) (.inr rfl) (.inl rfl) (.inr rfl) (.inr rfl) (.inr rfl) (.inr rfl)⟩, .inl (by show (numL 20 ++ numL lim).length + _ ≤ _; simp only [List.length_append, numL_length]; omega), fun e => by cases e⟩
  · obtain ⟨st, b1, h1, h⟩ := thenR_inv h
    obtain ⟨lim, b2, h2, h⟩ := thenR_inv h
    obtain ⟨e1, e2⟩ := okR_inv h
    obtain ⟨q1, q2⟩ := numR_inv h1
    obtain ⟨q3, q4⟩ := numR_inv h2
    subst e1 e2
    exact ⟨⟨⟨q1, by simp [f0], q3, by simp [f0], by simp [f0]⟩, bare_all (.inl rfl) (.inr rfl) (.inl rfl) (.inr rfl) (.inr rfl) (.inr rfl) (.inr rfl)⟩, .inl (by show (numL 21 ++ (numL st ++ numL lim)).length + _ ≤ _; simp only [List.length_append, numL_length]; omega), fun e => by cases e⟩
  · obtain ⟨co, b1, h1, h⟩ := thenR_inv h
    obtain ⟨z, b2, h2, h⟩ := thenR_inv h
    obtain ⟨q1, q2⟩ := numR_inv h1
    obtain ⟨q3, q4⟩ := numR_inv h2
    split at h
    · rename_i hz
      subst hz
      obtain ⟨d, b3, h3, h⟩ := thenR_inv h
      obtain ⟨e1, e2⟩ := okR_inv h
      obtain ⟨q5, q6⟩ := placedR_inv h3
      subst e1 e2
      exact ⟨⟨⟨by simp [f0], by simp [f0], by simp [f0], q1, by simpa [f0] using q5⟩, bare_all (.inr rfl) (.inr rfl) (.inr rfl) (.inl rfl) (.inl rfl) (.inl rfl) (.inr rfl)⟩, .inl (by show (numL 28 ++ (numL co ++ (numL 0 ++ sizedL d))).length + _ ≤ _; simp only [List.length_append, numL_length]; omega), fun e => by cases e⟩
    · cases h
  · obtain ⟨co, b1, h1, h⟩ := thenR_inv h
    obtain ⟨d, b3, h3, h⟩ := thenR_inv h
    obtain ⟨q1, q2⟩ := numR_inv h1
    obtain ⟨e1, e2⟩ := okR_inv h
    obtain ⟨q5, q6⟩ := placedR_inv h3
    subst e1 e2
    exact ⟨⟨⟨by simp [f0], by simp [f0], by simp [f0], q1, by simpa [f0] using q5⟩, bare_all (.inr rfl) (.inr rfl) (.inr rfl) (.inl rfl) (.inl rfl) (.inl rfl) (.inr rfl)⟩, .inl (by show (numL 29 ++ (numL co ++ ([] ++ sizedL d))).length + _ ≤ _; simp only [List.length_append, numL_length, List.length_nil]; omega), fun e => by cases e⟩
  · obtain ⟨e1, e2⟩ := okR_inv h
    subst e1 e2
    exact ⟨⟨⟨by simp [f0], by simp [f0], by simp [f0], by simp [f0], by simp [f0]⟩, bare_all (.inr rfl) (.inr rfl) (.inr rfl) (.inr rfl) (.inr rfl) (.inr rfl) (.inr rfl)⟩, .inl (by show (numL 30).length + _ ≤ _; rw [numL_length]; omega), fun e => by cases e⟩
  · cases h
theorem frame_told {b : List By} {f : Frame} {b' : List By} (h : frameR b = .ok (f, b')) : mayF f ∧ ((putF f).length + b'.length ≤ b.length ∨ b' = [] ∧ (putF f).length ≤ b.length + 8) ∧ (f.kind = 1 → ∃ t, b = (0 : By) :: t) := by
  unfold frameR at h
  split at h
  · cases h
  · rename_i n k e
    obtain ⟨q1, q2, q3, q4⟩ := getN_some e
    split at h
    · rename_i hk
      obtain ⟨h1, h2, h3⟩ := told_body n h
      rw [List.length_drop] at h2
      refine ⟨h1, ?_, fun e1 => ?_⟩
      · rcases h2 with h2 | ⟨h2, h4⟩
        · left; omega
        · right; exact ⟨h2, by omega⟩
      · have hn := h3 e1
        subst hn
        cases b with
        | nil => cases e
        | cons c t =>
          rw [getN] at e
          split at e
          · cases e
          · injection e with e
            injection e with e2 e3
            rw [hk, szN_small (by omega)] at e3
            have hc := c.isLt
            have hc0 : c.toNat / 64 = 0 := by
              have hq : c.toNat / 64 = 0 ∨ c.toNat / 64 = 1 ∨ c.toNat / 64 = 2 ∨ c.toNat / 64 = 3 := by omega
              rcases hq with q | q | q | q
              · exact q
              · rw [q] at e3; cases e3
              · rw [q] at e3; cases e3
              · rw [q] at e3; cases e3
            rw [hc0] at e2
            simp only [Nat.pow_zero, Nat.sub_self, List.take_zero, beV] at e2
            have : c = 0 := by
              apply BitVec.eq_of_toNat_eq
              show c.toNat = 0
              omega
            rw [this]
            exact ⟨t, rfl⟩
    · cases h
theorem more_may {f : Frame} (hk : f.kind = 1) (h : mayF f) (hl : f.limit ≠ 65536) : mayF (more f) := by
  obtain ⟨⟨n1, n2, n3, n4, n5⟩, hx⟩ := h
  rw [hk] at hx
  obtain ⟨⟨b1, b2, b3, b4, b5, b6, b7⟩, l1, l2⟩ := hx
  refine ⟨⟨n1, n2, by show f.limit + 1 ≤ _; omega, n4, n5⟩, ?_⟩
  rw [show (more f).kind = 1 from hk]
  exact ⟨⟨b1, b2, .inl rfl, b4, b5, b6, b7⟩, by show 1 ≤ f.limit + 1; omega, by show f.limit + 1 ≤ 65536; omega⟩
theorem put_more {f : Frame} (hk : f.kind = 1) : (putF (more f)).length = (putF f).length + 1 := by
  have h1 : putF (more f) = List.replicate (f.limit + 1) 0 := by unfold putF; rw [show (more f).kind = 1 from hk]; rfl
  have h2 : putF f = List.replicate f.limit 0 := by unfold putF; rw [hk]; rfl
  rw [h1, h2, List.length_replicate, List.length_replicate]
/-- The last first: no padding meets another one. -/
def sepA : List Frame → Prop
  | [] => True
  | f :: l => ¬ (padded l = true ∧ f.kind = 1) ∧ sepA l
def lenA : List Frame → Nat
  | [] => 0
  | f :: l => (putF f).length + lenA l
theorem lenA_put : ∀ (l : List Frame), (putAll l.reverse).length = lenA l
  | [] => rfl
  | f :: l => by
    rw [List.reverse_cons, putAll_append, List.length_append, lenA_put l, lenA, putAll, putAll, List.append_nil]
    omega
theorem sepL_snoc : ∀ (l : List Frame) (p : Bool) (f : Frame), sepL p l → ¬ ((match l.getLast? with | none => p | some g => g.kind == 1) = true ∧ f.kind = 1) → sepL p (l ++ [f])
  | [], _, _, _, h => ⟨h, trivial⟩
  | [g], _, _, hs, h => ⟨hs.1, h, trivial⟩
  | g :: g' :: l, p, f, hs, h => ⟨hs.1, sepL_snoc (g' :: l) (g.kind == 1) f hs.2 (by rw [List.getLast?_cons_cons] at h; rw [show (g' :: l).getLast? = some ((g' :: l).getLast (by simp)) from List.getLast?_eq_some_getLast (by simp)] at h ⊢; exact h)⟩
theorem sepA_L : ∀ (l : List Frame), sepA l → sepL false l.reverse
  | [], _ => trivial
  | f :: l, h => by
    rw [List.reverse_cons]
    refine sepL_snoc _ false f (sepA_L l h.2) ?_
    rw [List.getLast?_reverse]
    cases l with
    | nil => simp
    | cons g l => exact h.1
theorem loop_told : ∀ (fuel : Nat) (b : List By) (acc l : List Frame), getLoop fuel b acc = .ok l → (∀ f ∈ acc, mayF f) → sepA acc → acc.length ≤ 1024 → (∀ f ∈ l, mayF f) ∧ sepA l ∧ l.length ≤ 1024 ∧ lenA l ≤ lenA acc + b.length + 8
  | _, [], acc, l, h, hm, hs, hn => by
    rw [getLoop] at h
    injection h with h
    subst h
    exact ⟨hm, hs, hn, by omega⟩
  | 0, _ :: _, _, _, h, _, _, _ => by rw [getLoop] at h; cases h
  | fuel + 1, c :: b, acc, l, h, hm, hs, hn => by
    rw [getLoop] at h
    split at h
    · rename_i hc
      split at h
      · cases h
      · rename_i hl
        cases acc with
        | nil => exact absurd hc.2 (by simp [padded])
        | cons f acc =>
          have hk : f.kind = 1 := by have := hc.2; simpa [padded] using this
          have hl' : f.limit ≠ 65536 := hl
          have h' : getLoop fuel b (more f :: acc) = .ok l := h
          obtain ⟨a1, a2, a3, a4⟩ := loop_told fuel b _ l h' (fun g hg => by
            rcases List.mem_cons.1 hg with rfl | hg
            · exact more_may hk (hm f (by simp)) hl'
            · exact hm g (by simp [hg])) ⟨fun e => hs.1 ⟨e.1, hk⟩, hs.2⟩ hn
          refine ⟨a1, a2, a3, ?_⟩
          rw [lenA, put_more hk] at a4
          rw [lenA, List.length_cons]
          omega
    · rename_i hc
      split at h
      · cases h
      · rename_i hl
        cases hf : frameR (c :: b) with
        | error e => rw [hf] at h; cases h
        | ok x =>
          obtain ⟨f, b'⟩ := x
          rw [hf] at h
          simp only at h
          obtain ⟨t1, t2, t3⟩ := frame_told hf
          have hsep : sepA (f :: acc) := ⟨fun e => hc ⟨by
            obtain ⟨t, ht⟩ := t3 e.2
            injection ht, e.1⟩, hs⟩
          obtain ⟨a1, a2, a3, a4⟩ := loop_told fuel b' _ l h (fun g hg => by
            rcases List.mem_cons.1 hg with rfl | hg
            · exact t1
            · exact hm g hg) hsep (by rw [List.length_cons]; omega)
          refine ⟨a1, a2, a3, ?_⟩
          rw [lenA] at a4
          rcases t2 with t2 | ⟨t2, t4⟩
          · omega
          · subst t2
            cases fuel with
            | zero =>
              rw [getLoop] at h
              injection h with h
              subst h
              rw [lenA]
              omega
            | succ fuel =>
              rw [getLoop] at h
              injection h with h
              subst h
              rw [lenA]
              omega
/-- FrameAgain: what was got may be put. -/
theorem get_told {b : List By} {l : List Frame} (h : getAll b = .ok l) : (∀ f ∈ l, mayF f) ∧ sepL false l ∧ l.length ≤ 1024 ∧ (putAll l).length ≤ b.length + 8 ∧ b.length ≤ 1048576 := by
  unfold getAll at h
  split at h
  · cases h
  · cases hl : getLoop b.length b [] with
    | error e => rw [hl] at h; cases h
    | ok m =>
      rw [hl] at h
      simp only at h
      injection h with h
      subst h
      obtain ⟨a1, a2, a3, a4⟩ := loop_told _ _ _ _ hl (fun f hf => by cases hf) trivial (by simp)
      refine ⟨fun f hf => a1 f (by simpa using hf), sepA_L m a2, by rw [List.length_reverse]; exact a3, ?_, by omega⟩
      rw [lenA_put]
      rw [lenA] at a4
      omega

/-! ### The last byte is missing -/
theorem thenR_err {α β : Type} {m : R α} {f : α → R β} {b : List By} {e : Nat} (h : m b = .error e) : thenR m f b = .error e := by
  unfold thenR
  rw [h]
/-! ### An answer -/
end Go.Proofs.YtimhbjlmpojhoaaGreatDoor.Fr

/-! A region that draws its order: whole arrays are loaded first, then what calls, then what stores: laws for a walk by hand. -/
namespace Go.Proofs.YtimhbjlmpojhoaaGreatDoor
open Go Go.RowKit

section
variable {P : Program} {ops : Array Oper} {Q : Exit → Act → World → Prop} {md : Region.Mode} {S : World → Prop} {fuel : Nat} {listed : Array Bool} {a : Act} {w : World}

end
end Go.Proofs.YtimhbjlmpojhoaaGreatDoor

/-! Whole arrays inside a fence: laws of the walk. -/
namespace Go.Proofs.YtimhbjlmpojhoaaGreatDoor
open Go Go.RowKit

section
variable {F : Fence} {n : Nat} {P : Program} {ops : Array Oper} {rest : List Oper} {o : Oper} {a : Act} {w : World} {Q : Exit → Act → World → Prop}

theorem about_none (h : ∀ c, o.op ≠ .call c) : o.about P w a.eval = none := by
  unfold Oper.about
  split
  · rename_i c hc; exact absurd hc (h c)
  · rfl

theorem plain_skip (hgd : o.guard = none) (hc : ∀ c, o.op ≠ .call c) (hd : ∀ c, o.op ≠ .defer c) (w' : World) (he : (execOp a.eval o).run P w = .ok .skip w')
    (h : wpListIn F n P ops Q rest (a.put o.dst undef) w') : wpListIn F n P ops Q (o :: rest) a w :=
  wpListIn_plain hgd fun _ hK => ⟨(fun f hf => by rw [about_none hc] at hf; cases hf), (by rw [Oper.semAt_eq _ _ _ hd, he]; exact hK _ _ h)⟩

theorem run_store_row (ty : TypeId) (x y : Operand) (ho : o.op = .store ty x y) (g : Nat) (cs : Array Value) (hx : a.eval x = .pointer (some ⟨g, 0, none⟩)) (hy : a.eval y = .agg cs) (t : TypeId) (old : Array Value) (hg : Row w g t old)
    (m : Nat) (hi : (P.info? ty).map (·.size) = some m) (hs : old.size = m) (hc : cs.size = m) (h1 : cs.all (·.oneCell') = true) : (execOp a.eval o).run P w = .ok .skip (w.setRow g cs) := by
  unfold execOp
  simp only [ho, hx, hy, Instr.storeAt, Instr.sureAddr, Sem.run_bind, Sem.run_pure, Result.andThen_ok, run_storeVar_row w g t ty old cs hg (by rw [hc]; exact hi) (by omega) h1]
theorem store_rowIn (hgd : o.guard = none) (ty : TypeId) (x y : Operand) (ho : o.op = .store ty x y) (g : Nat) (cs : Array Value) (hx : a.eval x = .pointer (some ⟨g, 0, none⟩)) (hy : a.eval y = .agg cs) (t : TypeId) (old : Array Value) (hg : Row w g t old)
    (m : Nat) (hi : (P.info? ty).map (·.size) = some m) (hs : old.size = m) (hc : cs.size = m) (h1 : cs.all (·.oneCell') = true) (h : wpListIn F n P ops Q rest (a.put o.dst undef) (w.setRow g cs)) : wpListIn F n P ops Q (o :: rest) a w :=
  plain_skip hgd (by simp [ho]) (by simp [ho]) _ (run_store_row ty x y ho g cs hx hy t old hg m hi hs hc h1) h
end
end Go.Proofs.YtimhbjlmpojhoaaGreatDoor

/-! Slices of bytes, as the walks ask them. Written by mkcha.py. -/
namespace Go.Proofs.YtimhbjlmpojhoaaGreatDoor
open Go Go.RowKit

/-- A slice of bytes, and what lies in it. -/
structure SL where
  a : Option Addr
  len : Nat
  cap : Nat
  g : Nat
  off : Nat
  b : List By
def SL.v (s : SL) : Value := .slice s.a s.len s.cap
structure SL.Ok (w : World) (s : SL) : Prop where
  hb : s.b.length = s.len
  hcap : s.len ≤ s.cap
  nil : s.a = none → s.len = 0 ∧ s.cap = 0
  at_ : 0 < s.len → s.a = some ⟨s.g, s.off, none⟩
  lt : 0 < s.len → s.g < w.heap.size
  cell : ∀ j : Nat, j < s.len → w.cell? ⟨s.g, s.off + j, none⟩ = some (.int .u8 (v8 (gb s.b j)))
theorem SL.Ok.same {w w' : World} {s : SL} (h : s.Ok w) (hs : 0 < s.len → w'.heap[s.g]? = w.heap[s.g]?) (hz : w.heap.size ≤ w'.heap.size) : s.Ok w' :=
  ⟨h.hb, h.hcap, h.nil, h.at_, fun p => Nat.lt_of_lt_of_le (h.lt p) hz, fun j hj => (World.cell?_of_block (a := ⟨s.g, s.off + j, none⟩) (hs (by omega))).trans (h.cell j hj)⟩
theorem SL.Ok.below {w w' : World} {s : SL} (h : s.Ok w) (hb : Below w.heap.size w w') : s.Ok w' := h.same (fun p => hb.block _ (h.lt p)) hb.size
theorem SL.Ok.alloc {w : World} {s : SL} (h : s.Ok w) (o : Obj) : s.Ok (w.alloc o) := h.below ((Below.refl _ w).alloc (Nat.le_refl _) o)

/-- A row of the call's own, as a slice. -/
theorem SL.of_own {w : World} {base : Nat} {v : Value} {n : Nat} {xs : List By} (h : w.ownsRow base 5 1 v n (vb xs)) : ∃ s : SL, s.v = v ∧ s.len = n ∧ s.b = xs ∧ s.Ok w ∧ (0 < n → base ≤ s.g) := by
  have hl : xs.length = n := by have := h.1; rw [vb_length] at this; omega
  rcases h.2 with ⟨rfl, rfl⟩ | ⟨g, cap, cur, rfl, hg, hh, hn, _, _, _⟩
  · exact ⟨⟨none, 0, 0, 0, 0, xs⟩, rfl, rfl, rfl, ⟨hl, Nat.le_refl _, fun _ => ⟨rfl, rfl⟩, fun p => absurd p (Nat.lt_irrefl _), fun p => absurd p (Nat.lt_irrefl _), fun j hj => absurd hj (Nat.not_lt_zero _)⟩, fun p => absurd p (Nat.lt_irrefl _)⟩
  · refine ⟨⟨some ⟨g, 0, none⟩, n, cap, g, 0, xs⟩, rfl, rfl, rfl, ⟨hl, hn, fun e => (by simp at e), fun _ => rfl, fun _ => (Array.getElem?_eq_some_iff.1 hh).1, fun j hj => ?_⟩, fun _ => hg⟩
    have := h.cells (g := g) rfl j _ (vb_get xs j (by rw [hl]; exact hj))
    rw [add_off] at this
    rw [Nat.zero_add]
    exact this

section
variable {P : Program} {ops : Array Oper} {rest : List Oper} {o : Oper} {a : Act} {w : World} {Q : Exit → Act → World → Prop}
/-- What came in is appended to a row of the call's own. -/
theorem append_sl (hgd : o.guard = none) (s x : Operand) (t : TypeId) (ho : o.op = .call { callee := .builtin .append, args := #[s, x], argTypes := #[t, t] })
    (base : Nat) (i : TypeInfo) (ht : P.underlying t = some (.slice 5)) (hi : P.info? 5 = some i) (hz : i.zero = some (.int .u8 0)) (hsize : i.size = 1) (hby : i.bytes = 1)
    (v : Value) (n : Nat) (xs : List By) (hs : a.eval s = v) (hown : w.ownsRow base 5 1 v n (vb xs)) (q : SL) (hq : q.Ok w) (hx : a.eval x = .slice q.a q.len q.cap) (hl : n + q.len ≤ 8388608) (hbase : base ≤ w.heap.size)
    (h : ∀ v' w', w'.ownsRow base 5 1 v' (n + q.len) (vb (xs ++ q.b)) → w.grownBy w' v.ownBlock → wpList P ops Q rest (a.put o.dst v') w') : wpList P ops Q (o :: rest) a w := by
  obtain ⟨ad, len, cap, g, off, b⟩ := q
  cases ad with
  | none =>
    obtain ⟨h1, h2⟩ := hq.nil rfl
    simp only at h1 h2
    subst h1 h2
    have hb0 : b = [] := List.eq_nil_of_length_eq_zero hq.hb
    subst hb0
    refine wpList_append_own_none hgd s x t ho base 5 i 1 ht hi v n (vb xs) hs hown hx (h _ _ ?_ ⟨rfl, rfl, rfl, Nat.le_refl _, fun _ _ _ => rfl⟩)
    simpa using hown
  | some ad =>
    have hb : b.length = len := hq.hb
    refine wpList_append_own w hgd s x t ho base 5 i (.int .u8 0) 1 1 ht hi hz hsize hby rfl (by decide) v n (vb xs) hs hown ad len cap (vb b) hx (by rw [vb_length, hb, Nat.mul_one]) ?_ (vb_one b) (by unfold maxLen; simp only at hl; omega) (by simp only at hl; omega) hbase ?_
    · intro j u hj
      obtain ⟨h1, rfl⟩ := vb_get' b j u hj
      have e := hq.at_ (show 0 < len by omega)
      simp only at e
      injection e with e
      subst e
      rw [add_at]
      exact hq.cell j (show j < len by omega)
    · intro v' w' h1 h2 _
      rw [← vb_append] at h1
      exact h v' w' h1 h2
end
theorem own_low {w : World} {B B' n : Nat} {e : TypeId} {v : Value} {xs : List Value} (h : w.ownsRow B e 1 v n xs) (hB : B' ≤ B) : w.ownsRow B' e 1 v n xs := by
  obtain ⟨h1, h2⟩ := h
  refine ⟨h1, ?_⟩
  rcases h2 with h2 | ⟨g, c, cur, h3, h4, h5⟩
  · exact .inl h2
  · exact .inr ⟨g, c, cur, h3, Nat.le_trans hB h4, h5⟩
section
variable {P : Program} {a : Act} {w : World}
theorem exec_append {o : Oper} (s x : Operand) (t1 t2 : TypeId) (ho : o.op = .call { callee := .builtin .append, args := #[s, x], argTypes := #[t1, t2] }) (vs vx : Value) (hs : a.eval s = vs) (hx : a.eval x = vx)
    (v : Value) (w' : World) (hr : (Builtin.append_ #[t1, t2] o.type #[vs, vx]).run P w = .ok v w') : (execOp a.eval o).run P w = .ok (.value v) w' := by
  unfold execOp
  simp only [ho, resolve, invoke, builtin, Sem.run_bind, Sem.run_pure, Result.andThen_ok, List.map_toArray, List.map_cons, List.map_nil, hs, hx, hr]
end
end Go.Proofs.YtimhbjlmpojhoaaGreatDoor

/-! varint.Put, varint.Get and the document's Get, in the words of layer 7. -/
namespace Go.Proofs.YtimhbjlmpojhoaaGreatDoor
open Go Go.RowKit

/-- What Get answers of bytes. -/
def gotN (b : List By) : Nat × Nat × Nat := match Fr.getN b with
  | none => (0, 0, 4)
  | some (n, k) => (n, k, 0)

theorem acc_beV (l : List By) : ∀ n : Nat, acc (n : Int) (l.map v8) = (Fr.beV n l : Nat) := by
  induction l with
  | nil => intro n; rfl
  | cons c r ih =>
    intro n
    show acc (256 * (n : Int) + v8 c) (r.map v8) = _
    rw [show 256 * (n : Int) + v8 c = ((256 * n + c.toNat : Nat) : Int) by unfold v8; omega, ih]
    rfl

theorem klen_pow (c : By) : klen (v8 c) = 2 ^ (c.toNat / 64) := by
  have hc := c.isLt
  unfold klen v8
  rcases (show c.toNat / 64 = 0 ∨ c.toNat / 64 = 1 ∨ c.toNat / 64 = 2 ∨ c.toNat / 64 = 3 by omega) with h | h | h | h
  · rw [h, if_pos (by omega)]
  · rw [h, if_neg (by omega), if_pos (by omega)]
  · rw [h, if_neg (by omega), if_neg (by omega), if_pos (by omega)]
  · rw [h, if_neg (by omega), if_neg (by omega), if_neg (by omega)]

theorem gotN_cons (c : By) (r : List By) : gotN (c :: r) = if (c :: r).length < 2 ^ (c.toNat / 64) then (0, 0, 4) else (Fr.beV (c.toNat % 64) (r.take (2 ^ (c.toNat / 64) - 1)), 2 ^ (c.toNat / 64), 0) := by
  unfold gotN
  have e : Fr.getN (c :: r) = if (c :: r).length < 2 ^ (c.toNat / 64) then none else some (Fr.beV (c.toNat % 64) (r.take (2 ^ (c.toNat / 64) - 1)), 2 ^ (c.toNat / 64)) := rfl
  rw [e]
  by_cases hs : (c :: r).length < 2 ^ (c.toNat / 64)
  · rw [if_pos hs, if_pos hs]
  · rw [if_neg hs, if_neg hs]

theorem getR_num (b : List By) : getR (b.map v8) = (((gotN b).1 : Int), (gotN b).2.1, ((gotN b).2.2 : Int)) := by
  cases b with
  | nil => rfl
  | cons c r =>
    rw [gotN_cons]
    unfold getR
    rw [if_neg (by simp)]
    have e0 : ((c :: r).map v8)[0]?.getD 0 = v8 c := rfl
    rw [e0, klen_pow, List.length_map]
    by_cases hs : (c :: r).length < 2 ^ (c.toNat / 64)
    · rw [if_pos hs, if_pos hs]; rfl
    · rw [if_neg hs, if_neg hs]
      have : told ((c :: r).map v8) (2 ^ (c.toNat / 64) - 1) = (Fr.beV (c.toNat % 64) (r.take (2 ^ (c.toNat / 64) - 1)) : Nat) := by
        unfold told
        rw [e0, List.map_cons, List.drop_succ_cons, List.drop_zero, ← List.map_take, show v8 c % 64 = ((c.toNat % 64 : Nat) : Int) by unfold v8; omega, acc_beV]
      rw [this]
      rfl

theorem lies_sl {w : World} {s : SL} (h : s.Ok w) : LiesV w s.a (s.b.map v8) := by
  by_cases hp : 0 < s.len
  · refine .inr ⟨s.g, s.off, h.at_ hp, h.lt hp, fun j hj => ?_⟩
    rw [List.length_map, h.hb] at hj
    rw [h.cell j hj]
    congr 2
    unfold gb
    rw [List.getElem?_map, List.getElem?_eq_getElem (by rw [h.hb]; exact hj)]
    rfl
  · left
    rw [List.eq_nil_of_length_eq_zero (by have := h.hb; omega : s.b.length = 0)]
    rfl
theorem byte_range (b : List By) (j : Nat) : 0 ≤ (b.map v8)[j]?.getD 0 ∧ (b.map v8)[j]?.getD 0 ≤ 255 := by
  rw [List.getElem?_map]
  cases b[j]? with
  | none => exact ⟨by decide, by decide⟩
  | some c => exact ⟨v8_nn c, v8_le c⟩

def gotV (b : List By) : Value := .tuple #[.int .u64 ((gotN b).1 : Int), .int .i64 ((gotN b).2.1 : Int), .int .i64 ((gotN b).2.2 : Int)]
theorem getV_num (b : List By) : getV (b.map v8) = gotV b := by
  unfold getV gotV
  rw [getR_num]

/-- varint.Get, at any bytes. -/
theorem var_get (s : SL) (w : World) (hs : s.Ok w) (hl : s.len ≤ 1073741824) (hL : Lens w) :
    Calls Tryz.prog 155 #[.slice s.a s.len s.cap] w fun e w' => e = .returned (gotV s.b) ∧ w' = w := by
  rw [← getV_num]
  exact get_any s.a s.len s.cap (s.b.map v8) w (by rw [List.length_map, hs.hb]) hl hs.hcap (lies_sl hs) (byte_range s.b) hL
theorem Lens.step {w w' : World} (h : Lens w) (hb : Below w.heap.size w w') : Lens w' := by
  have hp : 1 < w.heap.size := by
    rcases Nat.lt_or_ge 1 w.heap.size with h0 | h0
    · exact h0
    · have := h.1
      simp [World.cell?, Array.getElem?_eq_none h0] at this
  exact ⟨(hb.cell (p := ⟨1, 0, none⟩) hp).trans h.1, (hb.cell (p := ⟨1, 1, none⟩) hp).trans h.2.1, (hb.cell (p := ⟨1, 2, none⟩) hp).trans h.2.2.1, (hb.cell (p := ⟨1, 3, none⟩) hp).trans h.2.2.2⟩
end Go.Proofs.YtimhbjlmpojhoaaGreatDoor

/-! A range over a function whose iterator writes into memory of its own between two rounds, and whose body writes one block alone and is never left early. -/
namespace Go.Proofs.YtimhbjlmpojhoaaGreatDoor
open Go Go.RowKit Go.Shelf

theorem veil {p : Prop} (h : p) : Hid p := h
/-- All blocks but one lie as they lay. -/
structure Keep1 (st : Nat) (W W' : World) : Prop where
  os : W'.os = W.os
  tape : W'.tape = W.tape
  output : W'.output = W.output
  size : W.heap.size ≤ W'.heap.size
  block : ∀ k, k < W.heap.size → k ≠ st → W'.heap[k]? = W.heap[k]?

theorem Keep1.refl (st : Nat) (W : World) : Keep1 st W W := ⟨rfl, rfl, rfl, Nat.le_refl _, fun _ _ _ => rfl⟩
theorem Keep1.trans {st : Nat} {A B C : World} (h : Keep1 st A B) (k : Keep1 st B C) : Keep1 st A C :=
  ⟨k.os.trans h.os, k.tape.trans h.tape, k.output.trans h.output, Nat.le_trans h.size k.size, fun i hi hs => (k.block i (Nat.lt_of_lt_of_le hi h.size) hs).trans (h.block i hi hs)⟩
theorem Keep1.setRow (st : Nat) (W : World) (cs : Array Value) : Keep1 st W (W.setRow st cs) := ⟨rfl, rfl, rfl, by rw [setRow_size]; exact Nat.le_refl _, fun k _ hk => setRow_other W st k cs hk⟩
theorem Keep1.below {st B : Nat} {W W' : World} (h : Keep1 st W W') (hB : B ≤ st) (hs : B ≤ W.heap.size) : Below B W W' := ⟨h.os, h.tape, h.output, h.size, fun k hk => h.block k (by omega) (by omega)⟩
theorem Keep1.row {st g : Nat} {W W' : World} {t : TypeId} {cs : Array Value} (h : Keep1 st W W') (hr : Row W g t cs) (hg : g ≠ st) : Row W' g t cs := (h.block g hr.lt hg).trans hr
section
variable {F : Fence} {n : Nat} {P : Program}

end
end Go.Proofs.YtimhbjlmpojhoaaGreatDoor

/-! A region inside a fence that draws its order: operations that come up alone, and many that only read. Written by mkquiet.py. -/
namespace Go.Proofs.YtimhbjlmpojhoaaGreatDoor
open Go Go.RowKit

section
variable {F : Fence} {n : Nat} {P : Program} {ops : Array Oper} {Q : Exit → Act → World → Prop} {md : Region.Mode} {fuel : Nat} {listed : Array Bool} {a : Act} {w : World}
theorem about_builtin {o : Oper} (b : Builtin) (args : Array Operand) (tys : Array TypeId) (ho : o.op = .call { callee := .builtin b, args := args, argTypes := tys }) : o.about P w a.eval = none := by
  unfold Oper.about
  simp only [ho, resolve, Sem.run_pure]
  rfl
theorem OI_value {o : Oper} {i : Nat} {K : Act → World → Prop} (hi : ops[i]? = some o) (hw : Region.wanted o (yielded ops a.tmps) = true) (hab : o.about P w a.eval = none) (hd : ∀ c, o.op ≠ .defer c) (v : Value) (w' : World)
    (he : (execOp a.eval o).run P w = .ok (.value v) w') (h : K (a.put o.dst v) w') : wpOpIn F n P ops Q i K a w := by
  unfold wpOpIn
  simp only [hi, hw, if_true]
  unfold Oper.wpIn
  refine ⟨fun f hf => (by rw [hab] at hf; cases hf), ?_⟩
  rw [Oper.semAt_eq _ _ _ hd, he]
  exact h
theorem OI_skip {o : Oper} {i : Nat} {K : Act → World → Prop} (hi : ops[i]? = some o) (hw : Region.wanted o (yielded ops a.tmps) = true) (hab : o.about P w a.eval = none) (hd : ∀ c, o.op ≠ .defer c) (w' : World)
    (he : (execOp a.eval o).run P w = .ok .skip w') (h : K (a.put o.dst undef) w') : wpOpIn F n P ops Q i K a w := by
  unfold wpOpIn
  simp only [hi, hw, if_true]
  unfold Oper.wpIn
  refine ⟨fun f hf => (by rw [hab] at hf; cases hf), ?_⟩
  rw [Oper.semAt_eq _ _ _ hd, he]
  exact h
theorem OI_call {o : Oper} {i : Nat} {K : Act → World → Prop} (hi : ops[i]? = some o) (hw : Region.wanted o (yielded ops a.tmps) = true) (hd : ∀ c, o.op ≠ .defer c) (f : Nat) (args : Array Value) (hab : ∀ g, o.about P w a.eval = some g → F.fn g)
    (he : (execOp a.eval o).run P w = .ok (.enter f args) w) (hn : 1 ≤ n) (hc : CallsIn F (n - 1) P f args w fun e w' => ∃ v, e = .returned v ∧ K (a.put o.dst v) w') : wpOpIn F n P ops Q i K a w := by
  unfold wpOpIn
  simp only [hi, hw, if_true]
  unfold Oper.wpIn
  refine ⟨hab, ?_⟩
  rw [Oper.semAt_eq _ _ _ hd, he]
  exact ⟨fun _ => hn, hc.mono (by rintro e w' ⟨v, rfl, h⟩; exact h)⟩
end

end Go.Proofs.YtimhbjlmpojhoaaGreatDoor

/-! A region that draws its order, by what holds at every state on the way: no program in sight. -/
namespace Go.Proofs.YtimhbjlmpojhoaaGreatDoor
open Go Go.RowKit

/-- The i-th is done. -/
def On (l : Array Bool) (i : Nat) : Prop := l.getD i false = true
theorem On.of_set {l : Array Bool} {i j : Nat} (h : On (l.setIfInBounds i true) j) (hij : i ≠ j) : On l j := by
  unfold On at *
  rw [Array.getD_eq_getD_getElem?] at *
  rwa [Array.getElem?_setIfInBounds_ne hij] at h
theorem On.set {l : Array Bool} {i j : Nat} (h : On l j) : On (l.setIfInBounds i true) j := by
  unfold On at *
  rw [Array.getD_eq_getD_getElem?] at *
  rw [Array.getElem?_setIfInBounds]
  split
  · split
    · rfl
    · rename_i h1 h2
      rw [Array.getElem?_eq_none (by omega)] at h
      cases h
  · exact h

theorem On.self {l : Array Bool} {i : Nat} (h : i < l.size) : On (l.setIfInBounds i true) i := by
  unfold On
  rw [Array.getD_eq_getD_getElem?, Array.getElem?_setIfInBounds_self_of_lt h]
  rfl
theorem On.none (N i : Nat) : ¬ On (Array.replicate N false) i := by
  unfold On
  rw [Array.getD_eq_getD_getElem?, Array.getElem?_replicate]
  split <;> simp

section
variable {F : Fence} {n : Nat} {P : Program} {ops : Array Oper} {Q : Exit → Act → World → Prop} {md : Region.Mode}
theorem count_set (l : Array Bool) (i : Nat) (hi : i < l.size) (h : l.getD i false = false) : (l.setIfInBounds i true).toList.count false + 1 = l.toList.count false := by
  obtain ⟨l⟩ := l
  simp only [List.size_toArray] at hi
  rw [Array.getD_eq_getD_getElem?] at h
  simp only [List.getElem?_toArray, List.getElem?_eq_getElem hi, Option.getD_some] at h
  simp only [List.setIfInBounds_toArray]
  induction l generalizing i with
  | nil => simp at hi
  | cons b l ih =>
    cases i with
    | zero =>
      simp at h
      subst h
      simp
    | succ i =>
      simp at h hi
      have := ih i hi h
      simp only [List.set_cons_succ, List.count_cons]
      omega

end
end Go.Proofs.YtimhbjlmpojhoaaGreatDoor

/-! A region that draws its order, by what holds at every state on the way, of any number of operations: what is asked of its order is read off its edges. No program in sight. -/
namespace Go.Proofs.YtimhbjlmpojhoaaGreatDoor
open Go Go.RowKit

/-- Values by their numbers, one of them another. -/
def updV (x : Nat → Value) (i : Nat) (v : Value) : Nat → Value := fun j => if j = i then v else x j
theorem updV_self {x : Nat → Value} {i : Nat} {v : Value} (h : x i = v) : x = updV x i v := by
  funext j
  unfold updV
  split
  · rename_i e; rw [e, h]
  · rfl

section
variable {F : Fence} {n : Nat} {P : Program} {ops : Array Oper} {Q : Exit → Act → World → Prop} {md : Region.Mode}
/-- What an operation is said to wait for is an edge that binds; and each edge that binds goes back. -/
def edgesB (md : Region.Mode) (ops : Array Oper) (dep : Nat → List Nat) : Bool :=
  (List.range ops.size).all fun i => match ops[i]? with
    | none => false
    | some o => ((dep i).all fun j => o.after.toList.any fun e => decide (e.on = j) && Region.binds md e) && o.after.toList.all fun e => !Region.binds md e || decide (e.on < i)

theorem anyIn_inv2 {Inv : Array Bool → Act → World → Prop} (dep : Nat → List Nat) (N : Nat) (hN : ops.size = N) (hd : edgesB md ops dep = true)
    (hstep : ∀ l a w i, l.size = N → Inv l a w → i < N → ¬ On l i → (∀ j ∈ dep i, On l j) → wpOpIn F n P ops Q i (Inv (l.setIfInBounds i true)) a w)
    (hdone : ∀ l a w, Inv l a w → (∀ i, i < N → On l i) → Q .normal a w) :
    ∀ (fuel : Nat) (l : Array Bool) (a : Act) (w : World), l.size = N → l.toList.count false ≤ fuel → Inv l a w → wpAnyIn F n P md ops Q fuel l a w := by
  have hall : ∀ i, i < N → ∃ o, ops[i]? = some o ∧ (∀ j ∈ dep i, ∃ e ∈ o.after.toList, e.on = j ∧ Region.binds md e = true) ∧ ∀ e ∈ o.after.toList, Region.binds md e = true → e.on < i := by
    intro i hi
    have h := List.all_eq_true.1 hd i (by rw [List.mem_range, hN]; exact hi)
    cases ho : ops[i]? with
    | none => simp [ho] at h
    | some o =>
      simp only [ho, Bool.and_eq_true] at h
      refine ⟨o, rfl, fun j hj => ?_, fun e he hb => ?_⟩
      · obtain ⟨e, he, h1⟩ := List.any_eq_true.1 (List.all_eq_true.1 h.1 j hj)
        simp only [Bool.and_eq_true, decide_eq_true_eq] at h1
        exact ⟨e, he, h1.1, h1.2⟩
      · have h1 := List.all_eq_true.1 h.2 e he
        rw [hb] at h1
        simpa using h1
  have key : ∀ l : Array Bool, l.size = N → (∀ i ∈ Region.ready md ops l, i < N ∧ l.getD i false = false ∧ ∀ j ∈ dep i, On l j) ∧ (Region.ready md ops l = [] → ∀ i, i < N → On l i) := by
    intro l hl
    refine ⟨fun i hi => ?_, fun h0 => ?_⟩
    · unfold Region.ready at hi
      rw [List.mem_filter, List.mem_range, hN] at hi
      obtain ⟨h1, h2⟩ := hi
      obtain ⟨o, ho, hdep, _⟩ := hall i h1
      simp only [ho, Option.map_some, Option.getD_some, Bool.and_eq_true, Bool.not_eq_true'] at h2
      have h3 : l.getD i false = false := by
        have := h2.1
        rw [Array.getD_eq_getD_getElem?, Array.getElem?_eq_getElem (by omega)] at this ⊢
        simpa using this
      refine ⟨h1, h3, fun j hj => ?_⟩
      obtain ⟨e, he, rfl, hb⟩ := hdep j hj
      have h4 := Array.all_eq_true'.1 h2.2 e (by simpa using he)
      rw [hb] at h4
      unfold On
      simpa using h4
    · intro i
      induction i using Nat.strongRecOn with
      | _ i ih =>
        intro hi
        obtain ⟨o, ho, _, hback⟩ := hall i hi
        cases hc : l.getD i false with
        | true => exact hc
        | false =>
          exfalso
          have hm : i ∈ Region.ready md ops l := by
            unfold Region.ready
            rw [List.mem_filter, List.mem_range, hN]
            refine ⟨hi, ?_⟩
            simp only [ho, Option.map_some, Option.getD_some, Bool.and_eq_true, Bool.not_eq_true']
            refine ⟨?_, Array.all_eq_true'.2 fun e he => ?_⟩
            · rw [Array.getD_eq_getD_getElem?, Array.getElem?_eq_getElem (by omega)] at hc ⊢
              simpa using hc
            · cases hb : Region.binds md e with
              | false => rfl
              | true =>
                have h1 := hback e (by simpa using he) hb
                have h2 := ih e.on h1 (by omega)
                unfold On at h2
                simpa using h2
          rw [h0] at hm
          cases hm
  intro fuel
  induction fuel with
  | zero =>
    intro l a w hl hc hI
    have h0 : Region.ready md ops l = [] := by
      cases hr : Region.ready md ops l with
      | nil => rfl
      | cons i r =>
        exfalso
        have h1 := (key l hl).1 i (by rw [hr]; simp)
        have h2 := count_set l i (by omega) h1.2.1
        omega
    exact ⟨h0, hdone l a w hI ((key l hl).2 h0)⟩
  | succ fuel ih =>
    intro l a w hl hc hI
    refine ⟨fun h0 => hdone l a w hI ((key l hl).2 h0), fun i hi => ?_⟩
    have h1 := (key l hl).1 i hi
    have h2 := count_set l i (by omega) h1.2.1
    exact wpOpIn_mono (fun a' w' hI' => ih _ a' w' (by rw [Array.size_setIfInBounds]; exact hl) (by omega) hI') (hstep l a w i hl hI h1.1 (by unfold On; rw [h1.2.1]; simp) h1.2.2)
end
/-- A region that reads and calls: each operation that is done has brought its value about. -/
structure JV (V : Nat → Value) (w0 : World) (l : Array Bool) (W : World) (x : Nat → Value) : Prop where
  bel : Below w0.heap.size w0 W
  g : ∀ j, On l j → x j = V j
theorem JV.next {V : Nat → Value} {w0 : World} {l : Array Bool} {W : World} {x : Nat → Value} (q : JV V w0 l W x) (i : Nat) (W' : World) (hb : Below W.heap.size W W') (v : Value) (hv : v = V i) : JV V w0 (l.setIfInBounds i true) W' (updV x i v) := by
  refine ⟨q.bel.trans (hb.mono q.bel.size), fun j hj => ?_⟩
  unfold updV
  split
  · rename_i e; rw [e]; exact hv
  · rename_i e; exact q.g j (hj.of_set (Ne.symm e))
theorem JV.start (V : Nat → Value) (w0 : World) (N : Nat) (W : World) (h : Below w0.heap.size w0 W) (x : Nat → Value) : JV V w0 (Array.replicate N false) W x := ⟨h, fun _ hj => absurd hj (On.none _ _)⟩
end Go.Proofs.YtimhbjlmpojhoaaGreatDoor
