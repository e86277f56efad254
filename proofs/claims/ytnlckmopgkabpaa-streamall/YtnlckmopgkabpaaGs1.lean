/-
  Out of ShaWord, ShaArr, ShaPlain, ShaSched, ShaFurther, ShaPrimes, ShaPad, ShaChPlain.
-/
import Derived.Laws.BitsAllLaws
import Derived.WalkKit
import Derived.WalkSpells
import Derived.WalkLawsBesides
import Derived.Deep.WholeRow
import Derived.Laws.ResultCell
import Derived.Laws.AppendOwn
import Derived.Laws.AppendOwnNone
import Derived.OwnWalk
import Derived.RangeFuncBox
import Derived.Maps.AppendAt
import Derived.Below

/-! Words of 32 bits, and the numbers that memory holds of them: no program in sight. -/
namespace Go.Proofs.Ytnlckmopgkabpaa
open Go

abbrev Wd := BitVec 32

/-- A word as the number that memory holds. -/
def u (x : Wd) : Int := (x.toNat : Int)
theorem u_nn (x : Wd) : 0 ≤ u x := by unfold u; omega
theorem u_le (x : Wd) : u x ≤ 4294967295 := by have := x.isLt; unfold u; omega
/-- The word of a number. -/
def wd (z : Int) : Wd := BitVec.ofNat 32 z.toNat
def xr (a b : Wd) : Wd := a ^^^ b
def an (a b : Wd) : Wd := a &&& b
def oo (a b : Wd) : Wd := a ||| b
def nt (a : Wd) : Wd := ~~~a
def ad (a b : Wd) : Wd := a + b
def sr (x : Wd) (n : Nat) : Wd := x >>> n
def sl (x : Wd) (n : Nat) : Wd := x <<< n
/-- Turned right by n bits. -/
def rr (x : Wd) (n : Nat) : Wd := oo (sr x n) (sl x (32 - n))

theorem u_nat (x : Wd) : (u x).toNat = x.toNat := by unfold u; omega
theorem bx (a b : Wd) : bits .xor .u32 (u a) (u b) = u (xr a b) := by
  rw [u32_xor _ _ (u_nn a) (by have := u_le a; omega) (u_nn b) (by have := u_le b; omega), u_nat, u_nat]
  unfold u xr
  rw [BitVec.toNat_xor]
theorem ba (a b : Wd) : bits .and .u32 (u a) (u b) = u (an a b) := by
  rw [u32_and _ _ (u_nn a) (by have := u_le a; omega) (u_nn b) (by have := u_le b; omega), u_nat, u_nat]
  unfold u an
  rw [BitVec.toNat_and]
theorem bo (a b : Wd) : bits .or .u32 (u a) (u b) = u (oo a b) := by
  rw [u32_or _ _ (u_nn a) (by have := u_le a; omega) (u_nn b) (by have := u_le b; omega), u_nat, u_nat]
  unfold u oo
  rw [BitVec.toNat_or]
end Go.Proofs.Ytnlckmopgkabpaa

/-! Rows of words and bytes in memory: a block that holds a list, whole. -/
namespace Go.Proofs.Ytnlckmopgkabpaa
open Go Go.RowKit

abbrev By := BitVec 8
/-- A byte as the number that memory holds. -/
def v8 (x : By) : Int := (x.toNat : Int)
theorem v8_nn (x : By) : 0 ≤ v8 x := by unfold v8; omega
theorem v8_le (x : By) : v8 x ≤ 255 := by have := x.isLt; unfold v8; omega
/-- The cells of words, of bytes, of numbers of 64 bits. -/
def ws (xs : List Wd) : Array Value := (xs.map fun x => Value.int .u32 (u x)).toArray
def bs (xs : List By) : Array Value := (xs.map fun x => Value.int .u8 (v8 x)).toArray
/-- The j-th. -/
def gw (xs : List Wd) (j : Nat) : Wd := xs[j]?.getD 0
def gb (xs : List By) (j : Nat) : By := xs[j]?.getD 0
theorem bs_get (xs : List By) (j : Nat) (h : j < xs.length) : (bs xs)[j]? = some (.int .u8 (v8 (gb xs j))) := by simp [bs, gb, h]
/-- The block g holds the cells cs, whole, and may be written. -/
def Row (w : World) (g : Nat) (t : TypeId) (cs : Array Value) : Prop := w.heap[g]? = some (.cells cs t (0, 0))

theorem Row.lt {w : World} {g : Nat} {t : TypeId} {cs : Array Value} (h : Row w g t cs) : g < w.heap.size := (Array.getElem?_eq_some_iff.1 h).1
theorem Row.cell {w : World} {g : Nat} {t : TypeId} {cs : Array Value} (h : Row w g t cs) (j : Nat) : w.cell? ⟨g, j, none⟩ = cs[j]? := cell_of_row w g j cs t (0, 0) h
theorem Row.frozen {w : World} {g : Nat} {t : TypeId} {cs : Array Value} (h : Row w g t cs) (j : Nat) : w.frozen? ⟨g, j, none⟩ = false := frozen_of_row w g j cs t h
theorem Row.new (w : World) (t : TypeId) (cs : Array Value) : Row (w.alloc (.cells cs t)) w.heap.size t cs := heap_alloc_new w _
theorem Row.alloc {w : World} {g : Nat} {t : TypeId} {cs : Array Value} (h : Row w g t cs) (o : Obj) : Row (w.alloc o) g t cs := (Below.heap_alloc w o g h.lt).trans h
theorem Row.drew {w : World} {g : Nat} {t : TypeId} {cs : Array Value} (h : Row w g t cs) : Row w.drew g t cs := h
theorem Row.set {w : World} {g : Nat} {t : TypeId} {cs : Array Value} (h : Row w g t cs) (j : Nat) (v : Value) : Row (w.setCell ⟨g, j, none⟩ v) g t (cs.setIfInBounds j v) := heap_setCell_same w g j cs t v h
theorem Row.other {w : World} {g : Nat} {t : TypeId} {cs : Array Value} (h : Row w g t cs) {a : Addr} (ha : g ≠ a.block) (v : Value) : Row (w.setCell a v) g t cs := (heap_setCell_other w a g v ha).trans h
theorem Row.below {w w' : World} {n g : Nat} {t : TypeId} {cs : Array Value} (h : Row w g t cs) (hb : Below n w w') (hg : g < n) : Row w' g t cs := (hb.block g hg).trans h
theorem Row.put {w : World} {g : Nat} {t : TypeId} {cs : Array Value} (h : Row w g t cs) (cs' : Array Value) : Row (w.setRow g cs') g t cs' := setRow_heap w g cs cs' t (0, 0) h
theorem bSetRow {B : Nat} {a w : World} (h : Below B a w) {g : Nat} (hg : B ≤ g) (cs : Array Value) : Below B a (w.setRow g cs) :=
  ⟨h.os, h.tape, h.output, by rw [setRow_size]; exact h.size, fun k hk => (setRow_other w g k cs (by omega)).trans (h.block k hk)⟩

/-- Where a row lies that was made one, two, three blocks ago. -/
theorem Row.new1 (w : World) (o : Obj) (t : TypeId) (cs : Array Value) : Row ((w.alloc o).alloc (.cells cs t)) (w.heap.size + 1) t cs := by
  have := Row.new (w.alloc o) t cs
  rw [World.size_alloc] at this
  exact this
section
variable {P : Program}
end
theorem add_at (g o j : Nat) : (⟨g, o, none⟩ : Addr).add j = ⟨g, o + j, none⟩ := by
  unfold Addr.add
  split
  · rename_i h; rw [h]; rfl
  · rfl
/-- The cells of bytes. -/
def bl (x : List By) : List Value := x.map fun x => Value.int .u8 (v8 x)
end Go.Proofs.Ytnlckmopgkabpaa

/-! SHA-256 on lists of words and bytes: no program in sight. -/
namespace Go.Proofs.Ytnlckmopgkabpaa
open Go

/-- The bits of f where e's are set, else those of g; those that at least two of a, b, c have. -/
def ch (e f g : Wd) : Wd := xr (an e f) (an (nt e) g)
/-- Three taken against one another. -/
def S1 (e : Wd) : Wd := xr (xr (rr e 6) (rr e 11)) (rr e 25)
def s1 (x : Wd) : Wd := xr (xr (rr x 17) (rr x 19)) (sr x 10)
def s0 (y : Wd) : Wd := xr (xr (rr y 7) (rr y 18)) (sr y 3)
def T1 (e f g h kw : Wd) : Wd := ad (ad (ad h (S1 e)) (ch e f g)) kw
end Go.Proofs.Ytnlckmopgkabpaa

/-! The words of a block, on lists: no program in sight. -/
namespace Go.Proofs.Ytnlckmopgkabpaa
open Go

/-- A byte as a word. -/
def ex (b : By) : Wd := b.setWidth 32
/-- The word that bytes make, the highest first. -/
def wordUp (l : List By) : Wd := l.foldl (fun w c => oo (sl w 8) (ex c)) 0
/-- The words when i bytes have come. -/
def parts (b : List By) (i : Nat) : List Wd := (List.range 64).map fun q => wordUp ((b.drop (4 * q)).take (min 4 (i - 4 * q)))
end Go.Proofs.Ytnlckmopgkabpaa

/-! A state, a block further, on lists: no program in sight. -/
namespace Go.Proofs.Ytnlckmopgkabpaa
open Go

end Go.Proofs.Ytnlckmopgkabpaa

/-! The first 64 primes, their roots, and how they are found: no program in sight. -/
namespace Go.Proofs.Ytnlckmopgkabpaa
open Go

end Go.Proofs.Ytnlckmopgkabpaa

/-! The blocks of bytes, on lists: no program in sight. -/
namespace Go.Proofs.Ytnlckmopgkabpaa
open Go

/-- How many bytes 00 stand behind the byte 80. -/
def padZ (n : Nat) : Nat := (119 - n % 64) % 64
/-- How many blocks. -/
def nb (b : List By) : Nat := (b.length + padZ b.length + 9) / 64
end Go.Proofs.Ytnlckmopgkabpaa

/-! Bytes appended to a row of the call's own. -/
namespace Go.Proofs.Ytnlckmopgkabpaa
open Go Go.RowKit

/-- The cells of bytes, as a list. -/
def vb (b : List By) : List Value := b.map fun c => .int .u8 (v8 c)
theorem vb_length (b : List By) : (vb b).length = b.length := by simp [vb]
theorem vb_append (a b : List By) : vb (a ++ b) = vb a ++ vb b := by simp [vb]
theorem vb_get (b : List By) (j : Nat) (h : j < b.length) : (vb b)[j]? = some (.int .u8 (v8 (gb b j))) := by
  unfold vb gb
  rw [List.getElem?_map, List.getElem?_eq_getElem h]
  rfl
theorem vb_get' (b : List By) (j : Nat) (u : Value) (h : (vb b)[j]? = some u) : j < b.length ∧ u = .int .u8 (v8 (gb b j)) := by
  have hj : j < b.length := by
    rcases Nat.lt_or_ge j b.length with h1 | h1
    · exact h1
    · rw [List.getElem?_eq_none (by rw [vb_length]; exact h1)] at h; cases h
  rw [vb_get b j hj] at h
  exact ⟨hj, (Option.some.inj h).symm⟩
theorem vb_one (b : List By) : ∀ u ∈ vb b, u.oneCell' = true := by
  intro u hu
  unfold vb at hu
  obtain ⟨c, _, rfl⟩ := List.mem_map.1 hu
  rfl
/-- A row of the call's own, at least one byte. -/
structure OwnB (w : World) (base g n cap : Nat) (b : List By) : Prop where
  len : b.length = n
  row : w.ownsRow base 5 1 (.slice (some ⟨g, 0, none⟩) n cap) n (vb b)
theorem add_off (g j : Nat) : (⟨g, 0, none⟩ : Addr).add j = ⟨g, j, none⟩ := by
  unfold Addr.add
  split
  · rename_i h; rw [h]
  · simp
theorem OwnB.cell {w : World} {base g n cap : Nat} {b : List By} (h : OwnB w base g n cap b) {j : Nat} (hj : j < n) : w.cell? ⟨g, j, none⟩ = some (.int .u8 (v8 (gb b j))) := by
  have := h.row.cells (g := g) rfl j _ (vb_get b j (by rw [h.len]; exact hj))
  rw [add_off] at this
  exact this
theorem OwnB.lt {w : World} {base g n cap : Nat} {b : List By} (h : OwnB w base g n cap b) : base ≤ g ∧ g < w.heap.size := h.row.lt g rfl
theorem OwnB.same {w w' : World} {base g n cap : Nat} {b : List By} (h : OwnB w base g n cap b) (hh : w'.heap[g]? = w.heap[g]?) : OwnB w' base g n cap b := ⟨h.len, by
  obtain ⟨h1, h2⟩ := h.row
  refine ⟨h1, ?_⟩
  rcases h2 with ⟨h3, h4⟩ | ⟨g', c', cur, h3, h4, h5, h6⟩
  · exact .inl ⟨h3, h4⟩
  · refine .inr ⟨g', c', cur, h3, h4, ?_, h6⟩
    rw [← h5]
    have e : g' = g := by injection h3 with e1; injection e1 with e2; injection e2 with e3; exact e3.symm
    subst e
    exact hh⟩
theorem OwnB.below {w w' : World} {base g n cap : Nat} {b : List By} (h : OwnB w base g n cap b) (hb : Below w.heap.size w w') : OwnB w' base g n cap b := by
  have hg := h.lt.2
  obtain ⟨_, _, _, _, hh⟩ := hb
  exact h.same (hh g hg)
theorem OwnB.other {w : World} {base g n cap : Nat} {b : List By} (h : OwnB w base g n cap b) {g' : Nat} (hg : g ≠ g') (j : Nat) (v : Value) : OwnB (w.setCell ⟨g', j, none⟩ v) base g n cap b :=
  h.same (Below.heap_setCell _ _ _ g hg)
section
variable {P : Program} {ops : Array Oper} {rest : List Oper} {o : Oper} {a : Act} {w : World} {Q : Exit → Act → World → Prop}
end
end Go.Proofs.Ytnlckmopgkabpaa
