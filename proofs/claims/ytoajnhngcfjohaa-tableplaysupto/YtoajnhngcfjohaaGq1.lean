/-
  Out of TbPlain, ShaWord, ShaArr, ShaLiftA, TbMem, ShaHeld, ShaIn, HkIn, ShaLoop, PlInv, AeInv, AeVals, AeVals2, PkVals, FlMem, LgRowT, FrChain, FrSeq, FrSpine, HkLoop, RgLoop, HfLoop, LgLoop, LgToolT, TbRow.
-/
import Derived.WalkKit
import Derived.Laws.BitsAllLaws
import Derived.WalkSpells
import Derived.WalkLawsBesides
import Derived.Deep.WholeRow
import Derived.Laws.ResultCell
import Derived.Test.YtoajnhngcfjohaaRows
import Derived.ProofKit
import Derived.OpenShut
import Derived.ShutString
import Derived.ChangeOld
import Derived.BigQuiet
import Derived.Deep.MidRow
import Derived.SizedLaws
import Derived.OrdersHeld
import Derived.RangeFuncNested
import Derived.RangeFuncBox
import Derived.RangeFuncBound
import Derived.RangeFuncCalls
import Derived.RangeFuncLeaves
import Derived.Shelf.Abstract
import Derived.Shelf.RegionOpen
import Derived.OwnWalkIn
import Derived.TacticsInMore
import Derived.LoopNIn
import Derived.LoopIn
import Derived.Maps.AppendAt
import Derived.OrdersIn
import Derived.ArgAppend
import Derived.Laws.OwnMore
import Derived.Deep.AppendLies
import Derived.Great.BuildSlice

/-! Tables of fields, plainly. -/
namespace Go.Proofs.Ytoajnhngcfjohaa

namespace Tb
/-- A field: its name, its value. -/
abbrev Fd := ByteArray × ByteArray
def sz (f : Fd) : Nat := f.1.size + f.2.size + 32
def size : List Fd → Nat
  | [] => 0
  | f :: l => sz f + size l
/-- How many of the eldest go, so that there is room for n more. -/
def gone (room n : Nat) : List Fd → Nat
  | [] => 0
  | f :: l => if size (f :: l) + n ≤ room then 0 else gone room n l + 1
structure Tab where
  room : Nat
  went : Nat
  l : List Fd
/-- The eldest go until there is room for n more. -/
def Tab.less (t : Tab) (n : Nat) : Tab := ⟨t.room, t.went + gone t.room n t.l, t.l.drop (gone t.room n t.l)⟩
def Tab.addE (t : Tab) (f : Fd) : Nat := if t.room < sz f then 6 else 0
def Tab.add (t : Tab) (f : Fd) : Tab := if t.room < sz f then t else let u := t.less (sz f); ⟨u.room, u.went, u.l ++ [f]⟩
def Tab.roomE (n : Int) : Nat := if n < 0 ∨ 4096 < n then 1 else 0
def Tab.setRoom (t : Tab) (n : Int) : Tab := if n < 0 ∨ 4096 < n then t else (⟨n.toNat, t.went, t.l⟩ : Tab).less 0
def Tab.came (t : Tab) : Nat := t.went + t.l.length
def Tab.get (t : Tab) (n : Nat) : Option Fd := if n < t.went then none else t.l[n - t.went]?
theorem size_append : ∀ (a b : List Fd), size (a ++ b) = size a + size b
  | [], b => by simp [size]
  | f :: a, b => by simp only [List.cons_append, size, size_append a b]; omega
theorem size_length : ∀ (l : List Fd), 32 * l.length ≤ size l
  | [] => by simp [size]
  | f :: l => by
    have := size_length l
    simp only [List.length_cons, size, sz]
    omega
theorem gone_le (room n : Nat) : ∀ (l : List Fd), gone room n l ≤ l.length
  | [] => Nat.le_refl _
  | f :: l => by
    have := gone_le room n l
    simp only [gone, List.length_cons]
    split <;> omega
/-- What is left has room. -/
theorem gone_room (room n : Nat) (hn : n ≤ room) : ∀ (l : List Fd), size (l.drop (gone room n l)) + n ≤ room
  | [] => by simpa [size] using hn
  | f :: l => by
    simp only [gone]
    split
    · assumption
    · exact gone_room room n hn l
/-- As long as fewer went there is no room. -/
theorem gone_need (room n : Nat) : ∀ (l : List Fd) (k : Nat), k < gone room n l → room < size (l.drop k) + n
  | [], k, h => absurd h (Nat.not_lt_zero _)
  | f :: l, k, h => by
    simp only [gone] at h
    split at h
    · exact absurd h (Nat.not_lt_zero _)
    · rename_i hc
      match k with
      | 0 => simp only [List.drop_zero]; omega
      | k + 1 => exact gone_need room n l k (by omega)
/-- The least number that leaves room is how many go. -/
theorem gone_is (room n : Nat) (l : List Fd) (k : Nat) (hk : k ≤ l.length) (h1 : ∀ j, j < k → room < size (l.drop j) + n) (h2 : k = l.length ∨ size (l.drop k) + n ≤ room) : gone room n l = k := by
  rcases Nat.lt_trichotomy (gone room n l) k with h | h | h
  · exfalso
    have a := h1 _ h
    rcases Nat.lt_or_ge room n with c | c
    · have : ∀ (l : List Fd), room < n → gone room n l = l.length := by
        intro l hc
        induction l with
        | nil => rfl
        | cons f l ih => simp only [gone, List.length_cons]; rw [if_neg (by omega), ih]
      have := this l c
      omega
    · have := gone_room room n c l
      omega
  · exact h
  · exfalso
    rcases h2 with h2 | h2
    · have := gone_le room n l; omega
    · have := gone_need room n l k h; omega
theorem less_room (t : Tab) (n : Nat) (hn : n ≤ t.room) : size (t.less n).l + n ≤ (t.less n).room := gone_room _ _ hn _
theorem less_came (t : Tab) (n : Nat) : (t.less n).came = t.came := by
  have := gone_le t.room n t.l
  simp only [Tab.less, Tab.came, List.length_drop]
  omega
/-- A table's own rule: what is there has room, and is small. -/
structure Tab.Fine (t : Tab) : Prop where
  room : t.room ≤ 4096
  size : size t.l ≤ t.room
theorem Tab.Fine.length {t : Tab} (h : t.Fine) : t.l.length ≤ 128 := by
  have := size_length t.l
  have := h.room
  have := h.size
  omega
theorem Tab.Fine.add {t : Tab} (h : t.Fine) (f : Fd) : (t.add f).Fine := by
  unfold Tab.add
  split
  · exact h
  · rename_i hc
    refine ⟨h.room, ?_⟩
    have := less_room t (sz f) (by omega)
    simp only [size_append]
    exact this
theorem Tab.Fine.setRoom {t : Tab} (h : t.Fine) (n : Int) : (t.setRoom n).Fine := by
  unfold Tab.setRoom
  split
  · exact h
  · rename_i hc
    have hn : n.toNat ≤ 4096 := by omega
    exact ⟨hn, less_room (⟨n.toNat, t.went, t.l⟩ : Tab) 0 (Nat.zero_le _)⟩
/-- What the list of all that came tells of a table: those that are there are its last ones. -/
structure Tab.Of (t : Tab) (L : List Fd) : Prop where
  le : t.went ≤ L.length
  l : t.l = L.drop t.went
theorem Tab.Of.came {t : Tab} {L : List Fd} (h : t.Of L) : t.came = L.length := by
  have := h.le
  unfold Tab.came
  rw [h.l, List.length_drop]
  omega
theorem Tab.Of.get {t : Tab} {L : List Fd} (h : t.Of L) (n : Nat) : t.get n = if n < t.went then none else L[n]? := by
  unfold Tab.get
  split
  · rfl
  · rw [h.l, List.getElem?_drop]
    congr 1
    omega
theorem Tab.Of.less {t : Tab} {L : List Fd} (h : t.Of L) (n : Nat) : (t.less n).Of L := by
  have h1 := gone_le t.room n t.l
  have h2 := h.le
  have h3 : t.l.length = L.length - t.went := by rw [h.l, List.length_drop]
  refine ⟨by show t.went + gone t.room n t.l ≤ _; omega, ?_⟩
  show t.l.drop _ = L.drop (t.went + gone t.room n t.l)
  rw [← List.drop_drop, ← h.l]
theorem Tab.Of.add {t : Tab} {L : List Fd} (h : t.Of L) (f : Fd) (hf : ¬ t.room < sz f) : (t.add f).Of (L ++ [f]) := by
  have h1 := h.less (sz f)
  unfold Tab.add
  rw [if_neg hf]
  have hle : (t.less (sz f)).went ≤ L.length := h1.le
  have hl : (t.less (sz f)).l = L.drop (t.less (sz f)).went := h1.l
  refine ⟨by show (t.less (sz f)).went ≤ _; rw [List.length_append]; omega, ?_⟩
  show (t.less (sz f)).l ++ [f] = (L ++ [f]).drop (t.less (sz f)).went
  rw [hl, List.drop_append_of_le_length hle]
/-- The first place from k on of a field that p takes; -1: none. -/
def firstI (p : Fd → Bool) : List Fd → Nat → Int
  | [], _ => -1
  | g :: l, k => if p g then (k : Int) else firstI p l (k + 1)
theorem firstI_none {p : Fd → Bool} : ∀ {l : List Fd} {k : Nat}, (∀ g ∈ l, p g = false) → firstI p l k = -1
  | [], _, _ => rfl
  | g :: l, k, h => by
    rw [firstI, h g (by simp)]
    exact firstI_none fun x hx => h x (by simp [hx])
theorem firstI_at {p : Fd → Bool} : ∀ {l : List Fd} {k i : Nat} {g : Fd}, l[i]? = some g → p g = true → (∀ j x, j < i → l[j]? = some x → p x = false) → firstI p l k = ((k + i : Nat) : Int)
  | [], _, _, _, h, _, _ => by simp at h
  | x :: l, k, 0, g, h, hp, _ => by
    simp only [List.getElem?_cons_zero, Option.some.injEq] at h
    subst h
    rw [firstI, if_pos hp]
    rfl
  | x :: l, k, i + 1, g, h, hp, ho => by
    rw [List.getElem?_cons_succ] at h
    rw [firstI, ho 0 x (by omega) rfl]
    simp only [Bool.false_eq_true, if_false]
    rw [firstI_at h hp fun j y hj hy => ho (j + 1) y (by omega) (by rw [List.getElem?_cons_succ]; exact hy)]
    congr 1
    omega
end Tb
end Go.Proofs.Ytoajnhngcfjohaa

/-! Words of 32 bits, and the numbers that memory holds of them: no program in sight. -/
namespace Go.Proofs.Ytoajnhngcfjohaa
open Go

abbrev Wd := BitVec 32

/-- A word as the number that memory holds. -/
def u (x : Wd) : Int := (x.toNat : Int)
theorem u_nn (x : Wd) : 0 ≤ u x := by unfold u; omega
theorem u_le (x : Wd) : u x ≤ 4294967295 := by have := x.isLt; unfold u; omega
def xr (a b : Wd) : Wd := a ^^^ b
def ad (a b : Wd) : Wd := a + b
theorem u_nat (x : Wd) : (u x).toNat = x.toNat := by unfold u; omega
theorem bx (a b : Wd) : bits .xor .u32 (u a) (u b) = u (xr a b) := by
  rw [u32_xor _ _ (u_nn a) (by have := u_le a; omega) (u_nn b) (by have := u_le b; omega), u_nat, u_nat]
  unfold u xr
  rw [BitVec.toNat_xor]
end Go.Proofs.Ytoajnhngcfjohaa

/-! Rows of words and bytes in memory: a block that holds a list, whole. -/
namespace Go.Proofs.Ytoajnhngcfjohaa
open Go Go.RowKit

abbrev By := BitVec 8
def gb (xs : List By) (j : Nat) : By := xs[j]?.getD 0
/-- The block g holds the cells cs, whole, and may be written. -/
def Row (w : World) (g : Nat) (t : TypeId) (cs : Array Value) : Prop := w.heap[g]? = some (.cells cs t (0, 0))

theorem Row.lt {w : World} {g : Nat} {t : TypeId} {cs : Array Value} (h : Row w g t cs) : g < w.heap.size := (Array.getElem?_eq_some_iff.1 h).1
theorem Row.cell {w : World} {g : Nat} {t : TypeId} {cs : Array Value} (h : Row w g t cs) (j : Nat) : w.cell? ⟨g, j, none⟩ = cs[j]? := cell_of_row w g j cs t (0, 0) h
theorem Row.frozen {w : World} {g : Nat} {t : TypeId} {cs : Array Value} (h : Row w g t cs) (j : Nat) : w.frozen? ⟨g, j, none⟩ = false := frozen_of_row w g j cs t h
theorem Row.new (w : World) (t : TypeId) (cs : Array Value) : Row (w.alloc (.cells cs t)) w.heap.size t cs := heap_alloc_new w _
theorem Row.alloc {w : World} {g : Nat} {t : TypeId} {cs : Array Value} (h : Row w g t cs) (o : Obj) : Row (w.alloc o) g t cs := (Below.heap_alloc w o g h.lt).trans h
theorem Row.drew {w : World} {g : Nat} {t : TypeId} {cs : Array Value} (h : Row w g t cs) : Row w.drew g t cs := h
theorem Row.set {w : World} {g : Nat} {t : TypeId} {cs : Array Value} (h : Row w g t cs) (j : Nat) (v : Value) : Row (w.setCell ⟨g, j, none⟩ v) g t (cs.setIfInBounds j v) := heap_setCell_same w g j cs t v h
theorem Row.other {w : World} {g : Nat} {t : TypeId} {cs : Array Value} (h : Row w g t cs) {a : Addr} (ha : g ≠ a.block) (v : Value) : Row (w.setCell a v) g t cs := (heap_setCell_other w a g v ha).trans h
theorem Row.below {w w' : World} {n g : Nat} {t : TypeId} {cs : Array Value} (h : Row w g t cs) (hb : Below n w w') (hg : g < n) : Row w' g t cs := (hb.block g hg).trans h
theorem Row.put {w : World} {g : Nat} {t : TypeId} {cs : Array Value} (h : Row w g t cs) (cs' : Array Value) : Row (w.setRow g cs') g t cs' := setRow_heap w g cs cs' t (0, 0) h
theorem bSetRow {B : Nat} {a w : World} (h : Below B a w) {g : Nat} (hg : B ≤ g) (cs : Array Value) : Below B a (w.setRow g cs) :=
  ⟨h.os, h.tape, h.output, by rw [setRow_size]; exact h.size, fun k hk => (setRow_other w g k cs (by omega)).trans (h.block k hk)⟩

section
variable {P : Program}
theorem wp_store_row {op : Oper} {a : Act} {w : World} {K : Act → World → Prop} {Q : Exit → Act → World → Prop} (ty : TypeId) (x y : Operand) (ho : op.op = .store ty x y)
    (g : Nat) (cs : Array Value) (hx : a.eval x = .pointer (some ⟨g, 0, none⟩)) (hy : a.eval y = .agg cs) (t : TypeId) (old : Array Value) (hg : Row w g t old)
    (hi : (P.info? ty).map (·.size) = some cs.size) (hs : old.size = cs.size) (h1 : cs.all (·.oneCell') = true)
    (h : K (a.put op.dst undef) (w.setRow g cs)) : op.wp P a w K Q := by
  unfold Oper.wp execOp
  simp only [ho, hx, hy, Instr.storeAt, Instr.sureAddr, Sem.run_bind, Sem.run_pure, Result.andThen_ok, run_storeVar_row w g t ty old cs hg hi hs h1]
  exact h

/-- A whole array is stored. -/
theorem store_row {ops : Array Oper} {rest : List Oper} {op : Oper} {a : Act} {w : World} {Q : Exit → Act → World → Prop} (hgd : op.guard = none) (ty : TypeId) (x y : Operand) (ho : op.op = .store ty x y)
    (g : Nat) (cs : Array Value) (hx : a.eval x = .pointer (some ⟨g, 0, none⟩)) (hy : a.eval y = .agg cs) (t : TypeId) (old : Array Value) (hg : Row w g t old)
    (n : Nat) (hi : (P.info? ty).map (·.size) = some n) (hs : old.size = n) (hc : cs.size = n) (h1 : cs.all (·.oneCell') = true)
    (h : wpList P ops Q rest (a.put op.dst undef) (w.setRow g cs)) : wpList P ops Q (op :: rest) a w :=
  wpList_plain hgd fun _ hK => wp_store_row ty x y ho g cs hx hy t old hg (by rw [hc]; exact hi) (by omega) h1 (hK _ _ h)

end
end Go.Proofs.Ytoajnhngcfjohaa

/-! From what a row says of an array that came in to the words and bytes of the walks. -/
namespace Go.Proofs.Ytoajnhngcfjohaa
open Go Go.ChangeShapes Go.WideShapes Go.ChangeAt Go.RowKit

theorem own : ownKnob Try.prog.godebug = none := by kernel_rfl
theorem laidOut : laidOutB Try.prog = true := by kernel_rfl

section
variable {H : Type} {enc : TypeId × Value → H} {P : Program} {w : World} {base : Nat} {spare : Nat → Bool} {held : Bool}

end
end Go.Proofs.Ytoajnhngcfjohaa

/-! Fields in memory; fields that came in. -/
namespace Go.Proofs.Ytoajnhngcfjohaa
open Go Go.ChangeShapes Go.WideShapes Go.ChangeAt Go.RowKit

namespace Tb
theorem pick_list {α : Type} {Pr : Nat → α → Prop} : ∀ (n : Nat), (∀ i, i < n → ∃ r, Pr i r) → ∃ l : List α, l.length = n ∧ ∀ i, i < n → ∃ r, l[i]? = some r ∧ Pr i r
  | 0, _ => ⟨[], rfl, fun i hi => absurd hi (Nat.not_lt_zero _)⟩
  | n + 1, h => by
    obtain ⟨l, h1, h2⟩ := pick_list n (fun i hi => h i (by omega))
    obtain ⟨r, hr⟩ := h n (by omega)
    refine ⟨l ++ [r], by rw [List.length_append, h1]; rfl, fun i hi => ?_⟩
    rcases Nat.lt_or_ge i n with q | q
    · obtain ⟨r', h3, h4⟩ := h2 i q
      exact ⟨r', by rw [List.getElem?_append_left (by omega)]; exact h3, h4⟩
    · obtain rfl : i = n := by omega
      exact ⟨r, by rw [List.getElem?_append_right (by omega), h1, Nat.sub_self]; rfl, hr⟩
def Fd.cells (f : Fd) : Array Value := #[.string f.1, .string f.2]
def Fd.Ok (f : Fd) : Prop := f.1.size ≤ 9223372036854775807 ∧ f.2.size ≤ 9223372036854775807
def fd0 : Fd := (⟨#[]⟩, ⟨#[]⟩)
def gfd (l : List Fd) (j : Nat) : Fd := l[j]?.getD fd0
structure FL where
  a : Option Addr
  len : Nat
  cap : Nat
  g : Nat
  off : Nat
  l : List Fd
structure FL.Ok (w : World) (s : FL) : Prop where
  hb : s.l.length = s.len
  hcap : s.len ≤ s.cap
  nil : s.a = none → s.len = 0 ∧ s.cap = 0
  at_ : 0 < s.len → s.a = some ⟨s.g, s.off, none⟩
  lt : 0 < s.len → s.g < w.heap.size
  cell : ∀ j : Nat, j < s.len → w.rangeAt s.g (s.off + j * 2) (gfd s.l j).cells.toList
  each : ∀ j : Nat, j < s.len → (gfd s.l j).Ok
theorem FL.Ok.below {w w' : World} {s : FL} (h : s.Ok w) (hb : Below w.heap.size w w') : s.Ok w' :=
  ⟨h.hb, h.hcap, h.nil, h.at_, fun p => Nat.lt_of_lt_of_le (h.lt p) hb.size, fun j hj i v hv => (hb.cell (p := ⟨s.g, s.off + j * 2 + i, none⟩) (h.lt (by omega))).trans (h.cell j hj i v hv), h.each⟩
section
variable {H : Type} {enc : TypeId × Value → H} {W : World}
theorem two_cells {l : List Value} {a b : Value} (hl : l.length = 2) (h0 : (l.drop 0).take 1 = [a]) (h1 : (l.drop 1).take 1 = [b]) : l = [a, b] := by
  match l, hl with
  | [x0, x1], _ => simp at h0 h1; rw [h0, h1]
set_option maxRecDepth 100000 in
theorem open_fd {fuel : Nat} {cs : List Value} {x : DataW H × List MemPlace} (hf : DataW.trod enc Try.prog W 0 (fun _ => true) true fuel 23 cs = some x) :
    ∃ f : Fd, cs = f.cells.toList ∧ f.Ok := by
  obtain ⟨xs, n, _, hxd, hlen, hxl, hfs⟩ := DataW.trod_struct Try.underlying23 hf
  have hl : Try.prog.cellsOf 23 = 2 := by kernel_rfl
  have cS : Try.prog.cellsOf 9 = 1 := by kernel_rfl
  have hx : xs.length = 2 := hxl
  have e0 : DataW.trod enc Try.prog W 0 (fun _ => true) true n 9 (List.take (Try.prog.cellsOf 9) (List.drop 0 _)) = xs[0]? := hfs 0 _ rfl
  have e1 : DataW.trod enc Try.prog W 0 (fun _ => true) true n 9 (List.take (Try.prog.cellsOf 9) (List.drop 1 _)) = xs[1]? := hfs 1 _ rfl
  rw [cS, List.getElem?_eq_getElem (by omega)] at e0 e1
  obtain ⟨a, h0, _, w0⟩ := DataW.trod_string Try.underlying9 e0
  obtain ⟨b, h1, _, w1⟩ := DataW.trod_string Try.underlying9 e1
  rw [hl] at hlen
  exact ⟨(a, b), two_cells hlen h0 h1, w0, w1⟩
end
end Tb
end Go.Proofs.Ytoajnhngcfjohaa

/-! A region that draws its order: whole arrays are loaded first, then what calls, then what stores: laws for a walk by hand. -/
namespace Go.Proofs.Ytoajnhngcfjohaa
open Go Go.RowKit

section
variable {P : Program} {ops : Array Oper} {Q : Exit → Act → World → Prop} {md : Region.Mode} {S : World → Prop} {fuel : Nat} {listed : Array Bool} {a : Act} {w : World}

end
end Go.Proofs.Ytoajnhngcfjohaa

/-! Whole arrays inside a fence: laws of the walk. -/
namespace Go.Proofs.Ytoajnhngcfjohaa
open Go Go.RowKit

section
variable {F : Fence} {n : Nat} {P : Program} {ops : Array Oper} {rest : List Oper} {o : Oper} {a : Act} {w : World} {Q : Exit → Act → World → Prop}

theorem about_none (h : ∀ c, o.op ≠ .call c) : o.about P w a.eval = none := by
  unfold Oper.about
  split
  · rename_i c hc; exact absurd hc (h c)
  · rfl

theorem run_store_row (ty : TypeId) (x y : Operand) (ho : o.op = .store ty x y) (g : Nat) (cs : Array Value) (hx : a.eval x = .pointer (some ⟨g, 0, none⟩)) (hy : a.eval y = .agg cs) (t : TypeId) (old : Array Value) (hg : Row w g t old)
    (m : Nat) (hi : (P.info? ty).map (·.size) = some m) (hs : old.size = m) (hc : cs.size = m) (h1 : cs.all (·.oneCell') = true) : (execOp a.eval o).run P w = .ok .skip (w.setRow g cs) := by
  unfold execOp
  simp only [ho, hx, hy, Instr.storeAt, Instr.sureAddr, Sem.run_bind, Sem.run_pure, Result.andThen_ok, run_storeVar_row w g t ty old cs hg (by rw [hc]; exact hi) (by omega) h1]
end
end Go.Proofs.Ytoajnhngcfjohaa

/-! A region inside a fence that draws its order: operations that come up alone, and many that only read. Written by mkquiet.py. -/
namespace Go.Proofs.Ytoajnhngcfjohaa
open Go Go.RowKit

section
variable {F : Fence} {n : Nat} {P : Program} {ops : Array Oper} {Q : Exit → Act → World → Prop} {md : Region.Mode} {fuel : Nat} {listed : Array Bool} {a : Act} {w : World}
theorem about_builtin {o : Oper} (b : Builtin) (args : Array Operand) (tys : Array TypeId) (ho : o.op = .call { callee := .builtin b, args := args, argTypes := tys }) : o.about P w a.eval = none := by
  unfold Oper.about
  simp only [ho, resolve, Sem.run_pure]
  rfl
theorem OI_value {o : Oper} {i : Nat} {K : Act → World → Prop} (hi : ops[i]? = some o) (hw : Region.wanted o (yielded ops a.tmps) = true) (hab : o.about P w a.eval = none) (hd : ∀ c, o.op ≠ .defer c) (v : Value) (w' : World)
    (he : (execOp a.eval o).run P w = .ok (.value v) w') (h : K (a.put o.dst v) w') : wpOpIn F n P ops Q i K a w := by
  unfold wpOpIn
  simp only [hi, hw, if_true]
  unfold Oper.wpIn
  refine ⟨fun f hf => (by rw [hab] at hf; cases hf), ?_⟩
  rw [Oper.semAt_eq _ _ _ hd, he]
  exact h
theorem OI_skip {o : Oper} {i : Nat} {K : Act → World → Prop} (hi : ops[i]? = some o) (hw : Region.wanted o (yielded ops a.tmps) = true) (hab : o.about P w a.eval = none) (hd : ∀ c, o.op ≠ .defer c) (w' : World)
    (he : (execOp a.eval o).run P w = .ok .skip w') (h : K (a.put o.dst undef) w') : wpOpIn F n P ops Q i K a w := by
  unfold wpOpIn
  simp only [hi, hw, if_true]
  unfold Oper.wpIn
  refine ⟨fun f hf => (by rw [hab] at hf; cases hf), ?_⟩
  rw [Oper.semAt_eq _ _ _ hd, he]
  exact h
theorem OI_call {o : Oper} {i : Nat} {K : Act → World → Prop} (hi : ops[i]? = some o) (hw : Region.wanted o (yielded ops a.tmps) = true) (hd : ∀ c, o.op ≠ .defer c) (f : Nat) (args : Array Value) (hab : ∀ g, o.about P w a.eval = some g → F.fn g)
    (he : (execOp a.eval o).run P w = .ok (.enter f args) w) (hn : 1 ≤ n) (hc : CallsIn F (n - 1) P f args w fun e w' => ∃ v, e = .returned v ∧ K (a.put o.dst v) w') : wpOpIn F n P ops Q i K a w := by
  unfold wpOpIn
  simp only [hi, hw, if_true]
  unfold Oper.wpIn
  refine ⟨hab, ?_⟩
  rw [Oper.semAt_eq _ _ _ hd, he]
  exact ⟨fun _ => hn, hc.mono (by rintro e w' ⟨v, rfl, h⟩; exact h)⟩
end

end Go.Proofs.Ytoajnhngcfjohaa

/-! A range over a function whose iterator writes into memory of its own between two rounds, and whose body writes one block alone and is never left early. -/
namespace Go.Proofs.Ytoajnhngcfjohaa
open Go Go.RowKit Go.Shelf

theorem veil {p : Prop} (h : p) : Hid p := h
/-- All blocks but one lie as they lay. -/
structure Keep1 (st : Nat) (W W' : World) : Prop where
  os : W'.os = W.os
  tape : W'.tape = W.tape
  output : W'.output = W.output
  size : W.heap.size ≤ W'.heap.size
  block : ∀ k, k < W.heap.size → k ≠ st → W'.heap[k]? = W.heap[k]?

theorem Keep1.refl (st : Nat) (W : World) : Keep1 st W W := ⟨rfl, rfl, rfl, Nat.le_refl _, fun _ _ _ => rfl⟩
theorem Keep1.trans {st : Nat} {A B C : World} (h : Keep1 st A B) (k : Keep1 st B C) : Keep1 st A C :=
  ⟨k.os.trans h.os, k.tape.trans h.tape, k.output.trans h.output, Nat.le_trans h.size k.size, fun i hi hs => (k.block i (Nat.lt_of_lt_of_le hi h.size) hs).trans (h.block i hi hs)⟩
theorem Keep1.of_below {st : Nat} {W W' : World} (h : Below W.heap.size W W') : Keep1 st W W' := ⟨h.os, h.tape, h.output, h.size, fun k hk _ => h.block k hk⟩
theorem Keep1.setRow (st : Nat) (W : World) (cs : Array Value) : Keep1 st W (W.setRow st cs) := ⟨rfl, rfl, rfl, by rw [setRow_size]; exact Nat.le_refl _, fun k _ hk => setRow_other W st k cs hk⟩
theorem Keep1.below {st B : Nat} {W W' : World} (h : Keep1 st W W') (hB : B ≤ st) (hs : B ≤ W.heap.size) : Below B W W' := ⟨h.os, h.tape, h.output, h.size, fun k hk => h.block k (by omega) (by omega)⟩
theorem Keep1.row {st g : Nat} {W W' : World} {t : TypeId} {cs : Array Value} (h : Keep1 st W W') (hr : Row W g t cs) (hg : g ≠ st) : Row W' g t cs := (h.block g hr.lt hg).trans hr
section
variable {F : Fence} {n : Nat} {P : Program}

end
theorem Keep1.cell {st g o : Nat} {W W' : World} (h : Keep1 st W W') (hg : g < W.heap.size) (hne : g ≠ st) : W'.cell? ⟨g, o, none⟩ = W.cell? ⟨g, o, none⟩ := World.cell?_of_block (w := W) (h.block g hg hne)
end Go.Proofs.Ytoajnhngcfjohaa

/-! A region that draws its order, by what holds at every state on the way: no program in sight. -/
namespace Go.Proofs.Ytoajnhngcfjohaa
open Go Go.RowKit

/-- The i-th is done. -/
def On (l : Array Bool) (i : Nat) : Prop := l.getD i false = true
theorem On.of_set {l : Array Bool} {i j : Nat} (h : On (l.setIfInBounds i true) j) (hij : i ≠ j) : On l j := by
  unfold On at *
  rw [Array.getD_eq_getD_getElem?] at *
  rwa [Array.getElem?_setIfInBounds_ne hij] at h
theorem On.set {l : Array Bool} {i j : Nat} (h : On l j) : On (l.setIfInBounds i true) j := by
  unfold On at *
  rw [Array.getD_eq_getD_getElem?] at *
  rw [Array.getElem?_setIfInBounds]
  split
  · split
    · rfl
    · rename_i h1 h2
      rw [Array.getElem?_eq_none (by omega)] at h
      cases h
  · exact h

theorem On.self {l : Array Bool} {i : Nat} (h : i < l.size) : On (l.setIfInBounds i true) i := by
  unfold On
  rw [Array.getD_eq_getD_getElem?, Array.getElem?_setIfInBounds_self_of_lt h]
  rfl
theorem On.none (N i : Nat) : ¬ On (Array.replicate N false) i := by
  unfold On
  rw [Array.getD_eq_getD_getElem?, Array.getElem?_replicate]
  split <;> simp

section
variable {F : Fence} {n : Nat} {P : Program} {ops : Array Oper} {Q : Exit → Act → World → Prop} {md : Region.Mode}
theorem count_set (l : Array Bool) (i : Nat) (hi : i < l.size) (h : l.getD i false = false) : (l.setIfInBounds i true).toList.count false + 1 = l.toList.count false := by
  obtain ⟨l⟩ := l
  simp only [List.size_toArray] at hi
  rw [Array.getD_eq_getD_getElem?] at h
  simp only [List.getElem?_toArray, List.getElem?_eq_getElem hi, Option.getD_some] at h
  simp only [List.setIfInBounds_toArray]
  induction l generalizing i with
  | nil => simp at hi
  | cons b l ih =>
    cases i with
    | zero =>
      simp at h
      subst h
      simp
    | succ i =>
      simp at h hi
      have := ih i hi h
      simp only [List.set_cons_succ, List.count_cons]
      omega

end
end Go.Proofs.Ytoajnhngcfjohaa

/-! A region that draws its order, by what holds at every state on the way, of any number of operations: what is asked of its order is read off its edges. No program in sight. -/
namespace Go.Proofs.Ytoajnhngcfjohaa
open Go Go.RowKit

/-- Values by their numbers, one of them another. -/
def updV (x : Nat → Value) (i : Nat) (v : Value) : Nat → Value := fun j => if j = i then v else x j
theorem updV_self {x : Nat → Value} {i : Nat} {v : Value} (h : x i = v) : x = updV x i v := by
  funext j
  unfold updV
  split
  · rename_i e; rw [e, h]
  · rfl

section
variable {F : Fence} {n : Nat} {P : Program} {ops : Array Oper} {Q : Exit → Act → World → Prop} {md : Region.Mode}
/-- What an operation is said to wait for is an edge that binds; and each edge that binds goes back. -/
def edgesB (md : Region.Mode) (ops : Array Oper) (dep : Nat → List Nat) : Bool :=
  (List.range ops.size).all fun i => match ops[i]? with
    | none => false
    | some o => ((dep i).all fun j => o.after.toList.any fun e => decide (e.on = j) && Region.binds md e) && o.after.toList.all fun e => !Region.binds md e || decide (e.on < i)

theorem anyIn_inv2 {Inv : Array Bool → Act → World → Prop} (dep : Nat → List Nat) (N : Nat) (hN : ops.size = N) (hd : edgesB md ops dep = true)
    (hstep : ∀ l a w i, l.size = N → Inv l a w → i < N → ¬ On l i → (∀ j ∈ dep i, On l j) → wpOpIn F n P ops Q i (Inv (l.setIfInBounds i true)) a w)
    (hdone : ∀ l a w, Inv l a w → (∀ i, i < N → On l i) → Q .normal a w) :
    ∀ (fuel : Nat) (l : Array Bool) (a : Act) (w : World), l.size = N → l.toList.count false ≤ fuel → Inv l a w → wpAnyIn F n P md ops Q fuel l a w := by
  have hall : ∀ i, i < N → ∃ o, ops[i]? = some o ∧ (∀ j ∈ dep i, ∃ e ∈ o.after.toList, e.on = j ∧ Region.binds md e = true) ∧ ∀ e ∈ o.after.toList, Region.binds md e = true → e.on < i := by
    intro i hi
    have h := List.all_eq_true.1 hd i (by rw [List.mem_range, hN]; exact hi)
    cases ho : ops[i]? with
    | none => simp [ho] at h
    | some o =>
      simp only [ho, Bool.and_eq_true] at h
      refine ⟨o, rfl, fun j hj => ?_, fun e he hb => ?_⟩
      · obtain ⟨e, he, h1⟩ := List.any_eq_true.1 (List.all_eq_true.1 h.1 j hj)
        simp only [Bool.and_eq_true, decide_eq_true_eq] at h1
        exact ⟨e, he, h1.1, h1.2⟩
      · have h1 := List.all_eq_true.1 h.2 e he
        rw [hb] at h1
        simpa using h1
  have key : ∀ l : Array Bool, l.size = N → (∀ i ∈ Region.ready md ops l, i < N ∧ l.getD i false = false ∧ ∀ j ∈ dep i, On l j) ∧ (Region.ready md ops l = [] → ∀ i, i < N → On l i) := by
    intro l hl
    refine ⟨fun i hi => ?_, fun h0 => ?_⟩
    · unfold Region.ready at hi
      rw [List.mem_filter, List.mem_range, hN] at hi
      obtain ⟨h1, h2⟩ := hi
      obtain ⟨o, ho, hdep, _⟩ := hall i h1
      simp only [ho, Option.map_some, Option.getD_some, Bool.and_eq_true, Bool.not_eq_true'] at h2
      have h3 : l.getD i false = false := by
        have := h2.1
        rw [Array.getD_eq_getD_getElem?, Array.getElem?_eq_getElem (by omega)] at this ⊢
        simpa using this
      refine ⟨h1, h3, fun j hj => ?_⟩
      obtain ⟨e, he, rfl, hb⟩ := hdep j hj
      have h4 := Array.all_eq_true'.1 h2.2 e (by simpa using he)
      rw [hb] at h4
      unfold On
      simpa using h4
    · intro i
      induction i using Nat.strongRecOn with
      | _ i ih =>
        intro hi
        obtain ⟨o, ho, _, hback⟩ := hall i hi
        cases hc : l.getD i false with
        | true => exact hc
        | false =>
          exfalso
          have hm : i ∈ Region.ready md ops l := by
            unfold Region.ready
            rw [List.mem_filter, List.mem_range, hN]
            refine ⟨hi, ?_⟩
            simp only [ho, Option.map_some, Option.getD_some, Bool.and_eq_true, Bool.not_eq_true']
            refine ⟨?_, Array.all_eq_true'.2 fun e he => ?_⟩
            · rw [Array.getD_eq_getD_getElem?, Array.getElem?_eq_getElem (by omega)] at hc ⊢
              simpa using hc
            · cases hb : Region.binds md e with
              | false => rfl
              | true =>
                have h1 := hback e (by simpa using he) hb
                have h2 := ih e.on h1 (by omega)
                unfold On at h2
                simpa using h2
          rw [h0] at hm
          cases hm
  intro fuel
  induction fuel with
  | zero =>
    intro l a w hl hc hI
    have h0 : Region.ready md ops l = [] := by
      cases hr : Region.ready md ops l with
      | nil => rfl
      | cons i r =>
        exfalso
        have h1 := (key l hl).1 i (by rw [hr]; simp)
        have h2 := count_set l i (by omega) h1.2.1
        omega
    exact ⟨h0, hdone l a w hI ((key l hl).2 h0)⟩
  | succ fuel ih =>
    intro l a w hl hc hI
    refine ⟨fun h0 => hdone l a w hI ((key l hl).2 h0), fun i hi => ?_⟩
    have h1 := (key l hl).1 i hi
    have h2 := count_set l i (by omega) h1.2.1
    exact wpOpIn_mono (fun a' w' hI' => ih _ a' w' (by rw [Array.size_setIfInBounds]; exact hl) (by omega) hI') (hstep l a w i hl hI h1.1 (by unfold On; rw [h1.2.1]; simp) h1.2.2)
end
/-- A region that reads and calls: each operation that is done has brought its value about. -/
structure JV (V : Nat → Value) (w0 : World) (l : Array Bool) (W : World) (x : Nat → Value) : Prop where
  bel : Below w0.heap.size w0 W
  g : ∀ j, On l j → x j = V j
end Go.Proofs.Ytoajnhngcfjohaa

/-! A region that draws its order, reads and calls: each operation has one value, whatever the order. No program in sight. -/
namespace Go.Proofs.Ytoajnhngcfjohaa
open Go Go.RowKit

/-- The slots of a list, from a number on, filled. -/
def putsV (a : Act) : List Nat → Nat → (Nat → Value) → Act
  | [], _, _ => a
  | d :: ds, k, x => putsV (a.put (some d) (x k)) ds (k + 1) x
theorem put_comm (a : Act) (d e : Nat) (u v : Value) (h : d ≠ e) : (a.put (some d) u).put (some e) v = (a.put (some e) v).put (some d) u := by
  simp only [Act.put]
  rw [Array.setIfInBounds_comm _ _ h]
theorem put_again (a : Act) (d : Nat) (u v : Value) : (a.put (some d) u).put (some d) v = a.put (some d) v := by
  simp only [Act.put]
  rw [Array.setIfInBounds_setIfInBounds]
theorem puts_comm (d : Nat) (v : Value) : ∀ (ds : List Nat) (a : Act) (k : Nat) (x : Nat → Value), d ∉ ds → (putsV a ds k x).put (some d) v = putsV (a.put (some d) v) ds k x
  | [], _, _, _, _ => rfl
  | e :: ds, a, k, x, h => by
    simp only [List.mem_cons, not_or] at h
    rw [putsV, puts_comm d v ds _ _ _ h.2, putsV, put_comm _ _ _ _ _ (Ne.symm h.1)]
theorem puts_congr : ∀ (ds : List Nat) (a : Act) (k : Nat) (x y : Nat → Value), (∀ j, k ≤ j → x j = y j) → putsV a ds k x = putsV a ds k y
  | [], _, _, _, _, _ => rfl
  | e :: ds, a, k, x, y, h => by
    rw [putsV, putsV, h k (Nat.le_refl _), puts_congr ds _ _ x y (fun j hj => h j (by omega))]
theorem puts_put : ∀ (ds : List Nat) (a : Act) (k i d : Nat) (x : Nat → Value) (v : Value), ds.Nodup → ds[i]? = some d → (putsV a ds k x).put (some d) v = putsV a ds k (updV x (k + i) v)
  | [], _, _, _, _, _, _, _, h => by simp at h
  | e :: ds, a, k, 0, d, x, v, hn, h => by
    simp only [List.getElem?_cons_zero, Option.some.injEq] at h
    subst h
    rw [List.nodup_cons] at hn
    rw [putsV, puts_comm _ _ _ _ _ _ hn.1, put_again, putsV]
    have e1 : updV x (k + 0) v k = v := by unfold updV; rw [if_pos (Nat.add_zero k).symm]
    rw [e1]
    exact puts_congr _ _ _ _ _ fun j hj => by unfold updV; rw [if_neg (by omega)]
  | e :: ds, a, k, i + 1, d, x, v, hn, h => by
    rw [List.nodup_cons] at hn
    rw [List.getElem?_cons_succ] at h
    rw [putsV, puts_put ds _ _ i d x v hn.2 h, putsV]
    have e1 : updV x (k + (i + 1)) v k = x k := by unfold updV; rw [if_neg (by omega)]
    rw [e1, show k + 1 + i = k + (i + 1) by omega]

section
variable {F : Fence} {n : Nat} {P : Program} {ops : Array Oper} {Q : Exit → Act → World → Prop} {md : Region.Mode}
end
end Go.Proofs.Ytoajnhngcfjohaa

/-! A region that draws its order, reads and calls, inside a round: its slots may hold anything. No program in sight. -/
namespace Go.Proofs.Ytoajnhngcfjohaa
open Go Go.RowKit

theorem put_self (a : Act) (d : Nat) : a.put (some d) (a.tmps.getD d undef) = a := by
  simp only [Act.put]
  congr 1
  apply Array.ext_getElem?
  intro i
  rw [Array.getElem?_setIfInBounds, Array.getD_eq_getD_getElem?]
  by_cases h : d = i
  · subst h
    rw [if_pos rfl]
    by_cases h2 : d < a.tmps.size
    · rw [if_pos h2, Array.getElem?_eq_getElem h2]
      rfl
    · rw [if_neg h2, Array.getElem?_eq_none (by omega)]
  · rw [if_neg h]
theorem puts_start (a : Act) : ∀ (ds : List Nat) (k : Nat), putsV a ds k (fun j => a.tmps.getD (ds.getD (j - k) 0) undef) = a
  | [], _ => rfl
  | d :: ds, k => by
    rw [putsV]
    simp only [Nat.sub_self, List.getD_cons_zero]
    rw [put_self]
    refine (puts_congr ds a (k + 1) _ _ fun j hj => ?_).trans (puts_start a ds (k + 1))
    rw [show j - k = (j - (k + 1)) + 1 by omega, List.getD_cons_succ]

section
variable {F : Fence} {n : Nat} {P : Program} {ops : Array Oper} {Q : Exit → Act → World → Prop} {md : Region.Mode}
end
end Go.Proofs.Ytoajnhngcfjohaa

/-! A region that draws its order, reads and calls, whose slots may hold anything ahead of it. No program in sight. -/
namespace Go.Proofs.Ytoajnhngcfjohaa
open Go Go.RowKit

section
variable {F : Fence} {n : Nat} {P : Program} {ops : Array Oper} {Q : Exit → Act → World → Prop} {md : Region.Mode}
end
end Go.Proofs.Ytoajnhngcfjohaa

/-! A region that draws its order: reads, a call, one store, and what comes behind it. No program in sight. -/
namespace Go.Proofs.Ytoajnhngcfjohaa
open Go Go.RowKit

section
variable {F : Fence} {n : Nat} {P : Program} {ops : Array Oper} {Q : Exit → Act → World → Prop} {md : Region.Mode}
end
end Go.Proofs.Ytoajnhngcfjohaa

/-! A list in memory that may begin in the middle of its block, and may be shorter than it. No function of the program in sight. -/
namespace Go.Proofs.Ytoajnhngcfjohaa
open Go Go.RowKit

def RowO (w : World) (e : TypeId) (size : Nat) (v : Value) (n : Nat) (xs : List Value) : Prop :=
  xs.length = n * size ∧
  ((v = .slice none 0 0 ∧ n = 0) ∨
   ∃ g o cap cur, v = .slice (some ⟨g, o, none⟩) n cap ∧ w.heap[g]? = some (.cells cur e (0, 0)) ∧ n ≤ cap ∧ cap ≤ maxLen ∧ o + cap * size ≤ cur.size ∧ (cur.toList.drop o).take (n * size) = xs)
section
variable {w w' : World} {e : TypeId} {size : Nat} {v : Value} {n : Nat} {xs : List Value}
theorem RowO.nil (w : World) (e : TypeId) (size : Nat) : RowO w e size (.slice none 0 0) 0 [] := ⟨by simp, .inl ⟨rfl, rfl⟩⟩
theorem RowO.of_own {base : Nat} (h : w.ownsRow base e size v n xs) : RowO w e size v n xs := by
  refine ⟨h.1, ?_⟩
  rcases h.2 with h2 | ⟨g, cap, cur, h1, h2, h3, h4, h5, h6, h7⟩
  · exact .inl h2
  · exact .inr ⟨g, 0, cap, cur, h1, h3, h4, h5, by rw [h6]; omega, by rw [List.drop_zero]; exact h7⟩
theorem RowO.lt (h : RowO w e size v n xs) : ∀ k, v.ownBlock = some k → k < w.heap.size := by
  intro k hk
  rcases h.2 with ⟨rfl, _⟩ | ⟨g, o, cap, cur, rfl, hg, _⟩
  · simp [Value.ownBlock] at hk
  · simp [Value.ownBlock] at hk
    subst hk
    exact (Array.getElem?_eq_some_iff.1 hg).1
theorem RowO.same (h : RowO w e size v n xs) (hk : ∀ k, v.ownBlock = some k → w'.heap[k]? = w.heap[k]?) : RowO w' e size v n xs := by
  refine ⟨h.1, ?_⟩
  rcases h.2 with hn | ⟨g, o, cap, cur, rfl, hg, rest⟩
  · exact .inl hn
  · exact .inr ⟨g, o, cap, cur, rfl, (hk g rfl).trans hg, rest⟩
theorem RowO.below (h : RowO w e size v n xs) (hb : Below w.heap.size w w') : RowO w' e size v n xs := h.same (fun k hk => hb.block k (h.lt k hk))
theorem RowO.shape (h : RowO w e size v n xs) : ∃ a cap, v = .slice a n cap ∧ n ≤ cap ∧ cap ≤ maxLen := by
  rcases h.2 with ⟨rfl, rfl⟩ | ⟨g, o, cap, cur, rfl, _, h1, h2, _⟩
  · exact ⟨none, 0, rfl, Nat.le_refl _, by decide⟩
  · exact ⟨_, cap, rfl, h1, h2⟩
theorem RowO.cells {a : Option Addr} {cap : Nat} (h : RowO w e size (.slice a n cap) n xs) : ∀ j u, xs[j]? = some u → ∃ g o, a = some ⟨g, o, none⟩ ∧ w.cell? ⟨g, o + j, none⟩ = some u := by
  intro j u hu
  rcases h.2 with ⟨_, rfl⟩ | ⟨g, o, cap', cur, h', hg, _, _, _, htake⟩
  · have := h.1
    simp at this
    subst this
    simp at hu
  · injection h' with e1 e2 e3
    refine ⟨g, o, e1, ?_⟩
    rw [cell_of_row w g (o + j) cur e (0, 0) hg]
    rw [← htake, List.getElem?_take] at hu
    split at hu
    · rw [List.getElem?_drop] at hu
      simpa using hu
    · cases hu
end
theorem run_append_roomO {P : Program} (w : World) (t ty e tb : TypeId) (i : TypeInfo) (ht : P.underlying t = some (.slice e)) (hi : P.info? e = some i)
    (g o n cap : Nat) (cur : Array Value) (hg : w.heap[g]? = some (.cells cur tb (0, 0)))
    (a : Addr) (m c : Nat) (news : List Value) (hl : news.length = m * i.size) (hnews : ∀ j u, news[j]? = some u → w.cell? (a.add j) = some u) (h1 : ∀ u ∈ news, u.oneCell' = true)
    (hroom : n + m ≤ cap) (hfit : o + n * i.size + news.length ≤ cur.size) :
    (Builtin.append_ #[t, t] ty #[.slice (some ⟨g, o, none⟩) n cap, .slice (some a) m c]).run P w =
      .ok (.slice (some ⟨g, o, none⟩) (n + m) cap) (w.setRow g (cur.toList.take (o + n * i.size) ++ news ++ cur.toList.drop (o + n * i.size + news.length)).toArray) := by
  have h2 := run_firstCells_some (P := P) w i.size m a m c news hl hnews
  have h3 := run_storeCells_at P g (o + n * i.size) tb news 0 cur w hg (by simpa using hfit) h1
  rw [Nat.add_zero] at h3
  have h4 : (⟨g, o, none⟩ : Addr).add (n * i.size) = ⟨g, o + n * i.size, none⟩ := Addr.add_mid _ _ _
  simp [Builtin.append_, run_underlying ht, sizeOf, typeInfo, hi, Builtin.lenOf, hroom, h2, h4, h3]
/-- What is appended: into the old row, or into a new one. -/
theorem run_append_O {P : Program} (w : World) (t ty e : TypeId) (i : TypeInfo) (z : Value) (size bytes : Nat) (ht : P.underlying t = some (.slice e)) (hi : P.info? e = some i) (hz : i.zero = some z)
    (hsize : i.size = size) (hby : i.bytes = bytes) (hzs : z.cells.size = size) (hsz : 0 < size)
    (v : Value) (n : Nat) (xs : List Value) (hown : RowO w e size v n xs)
    (a : Addr) (m c : Nat) (news : List Value) (hl : news.length = m * size) (hnews : ∀ j u, news[j]? = some u → w.cell? (a.add j) = some u) (h1 : ∀ u ∈ news, u.oneCell' = true)
    (h63 : n + m ≤ maxLen) (hbytes : (n + m) * bytes ≤ 140737488355328) :
    ∃ v' w', (Builtin.append_ #[t, t] ty #[v, .slice (some a) m c]).run P w = .ok v' w' ∧ RowO w' e size v' (n + m) (xs ++ news) ∧
      (v'.ownBlock = v.ownBlock ∧ v.ownBlock ≠ none ∧ w.grownBy w' v.ownBlock ∨ w.grownBy w' none ∧ (∀ k, v'.ownBlock = some k → k = w.heap.size)) := by
  have hlen : (xs ++ news).length = (n + m) * size := by rw [List.length_append, hown.1, hl, Nat.add_mul]
  rcases hown.2 with ⟨rfl, rfl⟩ | ⟨g0, o, cap0, cur, rfl, hg, hnc, hcm, hcs, htake⟩
  · have hx : xs = [] := List.eq_nil_of_length_eq_zero (by simpa using hown.1)
    subst hx
    obtain ⟨v', w', hr, h2, h3, _, h5⟩ := run_append_own_at (P := P) w w.heap.size t ty e i z size bytes ht hi hz hsize hby hzs hsz (.slice none 0 0) 0 [] (World.ownsRow_nil _ _ _ _) a m c news hl hnews h1 h63 hbytes (Nat.le_refl _)
    refine ⟨v', w', hr, .of_own h2, .inr ⟨h3, fun k hk => ?_⟩⟩
    rcases h5 with h5 | h5
    · rw [h5] at hk; cases hk
    · rw [h5] at hk; injection hk with hk; exact hk.symm
  · have hxl := hown.1
    by_cases hroom : n + m ≤ cap0
    · subst hsize
      have hfit : o + n * i.size + news.length ≤ cur.size := by
        rw [hl, Nat.add_assoc, ← Nat.add_mul]
        exact Nat.le_trans (Nat.add_le_add_left (Nat.mul_le_mul_right _ hroom) _) hcs
      have hr := run_append_roomO (P := P) w t ty e e i ht hi g0 o n cap0 cur hg a m c news hl hnews h1 hroom hfit
      refine ⟨_, _, hr, ⟨hlen, .inr ⟨g0, o, cap0, _, rfl, setRow_heap w g0 cur _ e _ hg, hroom, hcm, ?_, ?_⟩⟩, .inl ⟨rfl, by simp [Value.ownBlock], ⟨rfl, rfl, rfl, by simp, fun k _ hk => setRow_other w g0 k _ (fun e => hk (by simp [e, Value.ownBlock]))⟩⟩⟩
      · simp only [List.size_toArray, List.length_append, List.length_take, List.length_drop, Array.length_toList]
        omega
      · have e1 : cur.toList.take (o + n * i.size) = cur.toList.take o ++ xs := by rw [← htake, List.take_add]
        have e2 : (cur.toList.take o).length = o := by rw [List.length_take, Array.length_toList]; omega
        rw [e1, List.append_assoc, List.append_assoc]
        show ((List.take o cur.toList ++ (xs ++ (news ++ List.drop (o + n * i.size + news.length) cur.toList))).drop o).take _ = _
        rw [List.drop_left' e2, ← List.append_assoc, ← hlen]
        exact List.take_left
    · have holds : ∀ j u, xs[j]? = some u → w.cell? ((⟨g0, o, none⟩ : Addr).add j) = some u := by
        intro j u hu
        obtain ⟨g, o', e1, e2⟩ := RowO.cells (cap := cap0) hown j u hu
        injection e1 with e1
        injection e1 with e1 e3
        subst e1 e3
        rw [Addr.add_mid]
        exact e2
      have hr := run_append_grow (P := P) w t ty e i z ht hi hz ⟨g0, o, none⟩ n cap0 xs (by rw [hsize]; exact hown.1) holds a m c news (by rw [hsize]; exact hl) hnews (by omega) (by simp only [maxLen] at h63; omega) (growslice_fits (by omega) (by rw [hby]; exact hbytes))
      obtain ⟨v2, w2, hr2, h6, h7⟩ := run_append_arg_grows (P := P) w t ty e i z size bytes ht hi hz hsize hby hzs hsz ⟨g0, o, none⟩ n cap0 xs hown.1 holds a m c news hl hnews (by omega) h63 hbytes
      refine ⟨v2, w2, hr2, .of_own h6, .inr ⟨h7, fun k hk => ?_⟩⟩
      rw [hr] at hr2
      injection hr2 with e1 e2
      rw [← e1] at hk
      injection hk with hk
      exact hk.symm
end Go.Proofs.Ytoajnhngcfjohaa

/-! A region that draws its order, in which calls hand a row of the call's own from one to the next, and all else only reads. No program in sight. -/
namespace Go.Proofs.Ytoajnhngcfjohaa
open Go Go.RowKit

section
variable {F : Fence} {n : Nat} {P : Program} {ops : Array Oper} {Q : Exit → Act → World → Prop} {md : Region.Mode}
end
end Go.Proofs.Ytoajnhngcfjohaa

/-! A region that draws its order, in which calls come one behind the other and each has one value, and all else has one value, whatever the order. No program in sight. -/
namespace Go.Proofs.Ytoajnhngcfjohaa
open Go Go.RowKit

theorem put_none (a : Act) (v : Value) : a.put none v = a := rfl

section
variable {F : Fence} {n : Nat} {P : Program} {ops : Array Oper} {Q : Exit → Act → World → Prop} {md : Region.Mode}
end
end Go.Proofs.Ytoajnhngcfjohaa

/-! A region that draws its order, with a spine: operations that turn the world, one behind the other, each of which hands its value to the next; all else reads. No program in sight. -/
namespace Go.Proofs.Ytoajnhngcfjohaa
open Go Go.RowKit

section
variable {F : Fence} {n : Nat} {P : Program} {ops : Array Oper} {Q : Exit → Act → World → Prop} {md : Region.Mode}
theorem puts_size : ∀ (ds : List Nat) (a : Act) (k : Nat) (x : Nat → Value), (putsV a ds k x).tmps.size = a.tmps.size
  | [], _, _, _ => rfl
  | d :: ds, a, k, x => by
    rw [putsV, puts_size ds]
    simp [Act.put]
theorem put_far (a : Act) (d : Nat) (v : Value) (h : a.tmps.size ≤ d) : a.put (some d) v = a := by
  simp only [Act.put]
  congr 1
  exact Array.setIfInBounds_eq_of_size_le h
end
end Go.Proofs.Ytoajnhngcfjohaa

/-! A range over a function whose iterator writes into memory of its own between two rounds, and whose body writes some blocks alone and is never left early. -/
namespace Go.Proofs.Ytoajnhngcfjohaa
open Go Go.RowKit Go.Shelf

/-- All blocks but some lie as they lay. -/
structure KeepP (st : Nat → Prop) (W W' : World) : Prop where
  os : W'.os = W.os
  tape : W'.tape = W.tape
  output : W'.output = W.output
  size : W.heap.size ≤ W'.heap.size
  block : ∀ k, k < W.heap.size → ¬ st k → W'.heap[k]? = W.heap[k]?

theorem KeepP.refl (st : Nat → Prop) (W : World) : KeepP st W W := ⟨rfl, rfl, rfl, Nat.le_refl _, fun _ _ _ => rfl⟩
theorem KeepP.trans {st : Nat → Prop} {A B C : World} (h : KeepP st A B) (k : KeepP st B C) : KeepP st A C :=
  ⟨k.os.trans h.os, k.tape.trans h.tape, k.output.trans h.output, Nat.le_trans h.size k.size, fun i hi hs => (k.block i (Nat.lt_of_lt_of_le hi h.size) hs).trans (h.block i hi hs)⟩
theorem KeepP.of_below {st : Nat → Prop} {W W' : World} (h : Below W.heap.size W W') : KeepP st W W' := ⟨h.os, h.tape, h.output, h.size, fun k hk _ => h.block k hk⟩
theorem KeepP.setRow {st : Nat → Prop} {g : Nat} (hg : st g) (W : World) (cs : Array Value) : KeepP st W (W.setRow g cs) := ⟨rfl, rfl, rfl, by rw [setRow_size]; exact Nat.le_refl _, fun k _ hk => setRow_other W g k cs (fun e => hk (e ▸ hg))⟩
theorem KeepP.setCell {st : Nat → Prop} {g : Nat} (hg : st g) (W : World) (o : Nat) (v : Value) : KeepP st W (W.setCell ⟨g, o, none⟩ v) := ⟨rfl, rfl, rfl, by simp [World.setCell], fun k _ hk => Below.heap_setCell W _ v k (fun e => hk (e ▸ hg))⟩
theorem KeepP.grown {st : Nat → Prop} {g : Nat} (hg : st g) {W W' : World} (h : W.grownBy W' (some g)) : KeepP st W W' := ⟨h.os, h.tape, h.output, h.size, fun k hk hs => h.block k hk (fun e => by injection e with e; exact hs (e ▸ hg))⟩
theorem KeepP.below {st : Nat → Prop} {B : Nat} {W W' : World} (h : KeepP st W W') (hB : ∀ k, st k → B ≤ k) (hs : B ≤ W.heap.size) : Below B W W' := ⟨h.os, h.tape, h.output, h.size, fun k hk => h.block k (by omega) (fun e => by have := hB k e; omega)⟩
theorem KeepP.row {st : Nat → Prop} {g : Nat} {W W' : World} {t : TypeId} {cs : Array Value} (h : KeepP st W W') (hr : Row W g t cs) (hg : ¬ st g) : Row W' g t cs := (h.block g hr.lt hg).trans hr

section
variable {F : Fence} {n : Nat} {P : Program}

end
end Go.Proofs.Ytoajnhngcfjohaa

/-! A range over a function that goes from state to state; its body may write what was made behind the loop's beginning, and may leave by a return. -/
namespace Go.Proofs.Ytoajnhngcfjohaa
open Go Go.RowKit Go.Shelf

/-- The first blocks, but for some, lie as they lay. -/
structure KeepB (B : Nat) (st : Nat → Prop) (W W' : World) : Prop where
  os : W'.os = W.os
  tape : W'.tape = W.tape
  output : W'.output = W.output
  size : W.heap.size ≤ W'.heap.size
  block : ∀ k, k < B → ¬ st k → W'.heap[k]? = W.heap[k]?
theorem KeepB.refl (B : Nat) (st : Nat → Prop) (W : World) : KeepB B st W W := ⟨rfl, rfl, rfl, Nat.le_refl _, fun _ _ _ => rfl⟩
theorem KeepB.trans {B : Nat} {st : Nat → Prop} {A C D : World} (h : KeepB B st A C) (k : KeepB B st C D) : KeepB B st A D :=
  ⟨k.os.trans h.os, k.tape.trans h.tape, k.output.trans h.output, Nat.le_trans h.size k.size, fun i hi hs => (k.block i hi hs).trans (h.block i hi hs)⟩
theorem KeepB.of_below {B : Nat} {st : Nat → Prop} {W W' : World} (h : Below B W W') : KeepB B st W W' := ⟨h.os, h.tape, h.output, h.size, fun k hk _ => h.block k hk⟩
theorem KeepB.mono {B C : Nat} {st : Nat → Prop} {W W' : World} (h : KeepB B st W W') (hc : C ≤ B) : KeepB C st W W' := ⟨h.os, h.tape, h.output, h.size, fun k hk hs => h.block k (by omega) hs⟩
theorem KeepB.setCell {B : Nat} {st : Nat → Prop} {g : Nat} (hg : st g ∨ B ≤ g) (W : World) (o : Nat) (v : Value) : KeepB B st W (W.setCell ⟨g, o, none⟩ v) :=
  ⟨rfl, rfl, rfl, by simp [World.setCell], fun k hk hs => Below.heap_setCell W _ v k (fun e => hg.elim (fun h => hs (by rw [e]; exact h)) (fun h => by simp only at e; omega))⟩

section
variable {F : Fence} {n : Nat} {P : Program}
end
end Go.Proofs.Ytoajnhngcfjohaa

/-! A range over a function, where the iterator has memory of its own that the body leaves alone (the blocks M), and the body has memory of its own that the iterator leaves alone; the body may leave by a return. -/
namespace Go.Proofs.Ytoajnhngcfjohaa
open Go Go.RowKit Go.Shelf

/-- What a round leaves: the first blocks, but for some, and the iterator's. -/
structure KeepY (B : Nat) (st M : Nat → Prop) (W W' : World) : Prop where
  os : W'.os = W.os
  tape : W'.tape = W.tape
  output : W'.output = W.output
  size : W.heap.size ≤ W'.heap.size
  block : ∀ k, k < W.heap.size → (k < B ∧ ¬ st k ∨ M k) → W'.heap[k]? = W.heap[k]?
theorem KeepY.refl (B : Nat) (st M : Nat → Prop) (W : World) : KeepY B st M W W := ⟨rfl, rfl, rfl, Nat.le_refl _, fun _ _ _ => rfl⟩
theorem KeepY.trans {B : Nat} {st M : Nat → Prop} {A C D : World} (h : KeepY B st M A C) (k : KeepY B st M C D) : KeepY B st M A D :=
  ⟨k.os.trans h.os, k.tape.trans h.tape, k.output.trans h.output, Nat.le_trans h.size k.size, fun i hi hs => (k.block i (Nat.lt_of_lt_of_le hi h.size) hs).trans (h.block i hi hs)⟩
theorem KeepY.of_below {B : Nat} {st M : Nat → Prop} {W W' : World} (h : Below W.heap.size W W') : KeepY B st M W W' := ⟨h.os, h.tape, h.output, h.size, fun k hk _ => h.block k hk⟩
theorem KeepY.setCell {B : Nat} {st M : Nat → Prop} {g : Nat} (hg : st g ∨ B ≤ g) (hm : ¬ M g) (W : World) (o : Nat) (v : Value) : KeepY B st M W (W.setCell ⟨g, o, none⟩ v) :=
  ⟨rfl, rfl, rfl, by simp [World.setCell], fun k _ hk => Below.heap_setCell W _ v k (fun e => by
    simp only at e
    subst e
    rcases hk with ⟨h1, h2⟩ | h
    · exact hg.elim h2 (fun h => by omega)
    · exact hm h)⟩
/-- What the iterator leaves: all that is not its own. -/
structure KeepM (M : Nat → Prop) (W W' : World) : Prop where
  os : W'.os = W.os
  tape : W'.tape = W.tape
  output : W'.output = W.output
  size : W.heap.size ≤ W'.heap.size
  block : ∀ k, k < W.heap.size → ¬ M k → W'.heap[k]? = W.heap[k]?
theorem KeepM.of_below {M : Nat → Prop} {W W' : World} (h : Below W.heap.size W W') : KeepM M W W' := ⟨h.os, h.tape, h.output, h.size, fun k hk _ => h.block k hk⟩
section
variable {P : Program}
end
end Go.Proofs.Ytoajnhngcfjohaa

/-! A range over a function, where the iterator has memory of its own, old blocks (M0) and new ones, that the body leaves alone, and the body has memory of its own that the iterator leaves alone; the body goes on always. What the iterator leaves in its own memory is told at the end. -/
namespace Go.Proofs.Ytoajnhngcfjohaa
open Go Go.RowKit Go.Shelf

section
variable {P : Program}
end
end Go.Proofs.Ytoajnhngcfjohaa

/-! Single operations for drawn regions. No program in sight. -/
namespace Go.Proofs.Ytoajnhngcfjohaa
open Go Go.RowKit
section
variable {P : Program} {a : Act} {o : Oper}
theorem lgRun_cell (ty : TypeId) (x : Operand) (p : Addr) (v : Value) (d : TypeDesc) (ho : o.op = .load ty x) (hx : a.eval x = .pointer (some p)) (hu : P.underlying ty = some d) (hd : (match d with | .struct _ | .array _ _ => true | _ => false) = false)
    (W : World) (hv : W.cell? p = some v) : (execOp a.eval o).run P W = .ok (.value v) W := by
  have hag : (isAgg ty).run P W = .ok false W := by
    unfold isAgg
    rw [Sem.run_bind, run_underlying hu W]
    cases d <;> simp_all
  unfold execOp
  simp [ho, hx, Instr.loadAt, Instr.sureAddr, loadVar, hag, hv]
theorem lgRun_store (ty : TypeId) (x y : Operand) (p : Addr) (z : Value) (old : Value) (h1 : z.oneCell' = true) (ho : o.op = .store ty x y) (hx : a.eval x = .pointer (some p)) (hy : a.eval y = z) (hi : (P.info? ty).map (·.size) = some 1) (w : World)
    (hc : w.cell? p = some old) (hf : w.frozen? p = false) : (execOp a.eval o).run P w = .ok .skip (w.setCell p z) := by
  have hsz : (sizeOf ty).run P w = .ok 1 w := by
    cases hq : P.info? ty with
    | none => simp [hq] at hi
    | some i =>
      have : i.size = 1 := by simpa [hq] using hi
      simp [sizeOf, typeInfo, hq, this]
  have hz : z.cells = #[z] := by cases z <;> first | rfl | simp [Value.oneCell'] at h1
  unfold execOp
  simp only [ho, hx, hy, Instr.storeAt, Instr.sureAddr, storeVar, Sem.run_bind, Sem.run_pure, Result.andThen_ok, hsz]
  simp [hz, storeCells, Addr.add_zero', run_store P w p z _ (by cases z <;> first | rfl | simp [Value.oneCell'] at h1), hc, hf]
theorem lgRun_sub (t t' : TypeId) (x y : Operand) (m r d : Nat) (hd : r + d = m) (hm : m ≤ 140737488355328) (ho : o.op = .binOp .sub t x y t') (hx : a.eval x = .int .i64 (m : Int)) (hy : a.eval y = .int .i64 (r : Int)) (W : World) :
    (execOp a.eval o).run P W = .ok (.value (.int .i64 (d : Int))) W := by
  have hw : IntKind.i64.wrap ((m : Int) - (r : Int)) = (d : Int) := by rw [IntKind.wrap_i64]; omega
  unfold execOp
  simp only [ho, hx, hy]
  go_simp
theorem lgRun_build1 (t e : TypeId) (x : Operand) (cs : Array Value) (ie : TypeInfo) (z : Value) (n : Nat) (ho : o.op = .buildSlice t 1 #[(0, x)]) (hx : a.eval x = .agg cs) (hu : P.underlying t = some (.slice e)) (hie : P.info? e = some ie) (hz : ie.zero = some z) (hn : ie.size = n) (h0 : 0 < n) (h1 : n < 100)
    (hf : Instr.fill (fun i => some (i * n, n)) ((Array.range (1 * n)).map (z.cells[· % z.cells.size]!)) [(0, .agg cs)] = some cs) (W : World) :
    (execOp a.eval o).run P W = .ok (.value (.slice (some ⟨W.heap.size, 0, none⟩) 1 1)) (W.alloc (.cells cs e)) := by
  subst hn
  unfold execOp
  have := run_buildSlice (P := P) W t e 1 #[(0, .agg cs)] cs ie z hu hie hz (by omega) (by omega) hf
  simp only [ho, List.map_toArray, List.map_cons, List.map_nil, hx, Sem.run_bind, this, Result.andThen_ok]
  rfl
theorem lgRun_append (ts : Array TypeId) (s y : Operand) (v u v' : Value) (W W' : World) (ho : o.op = .call { callee := .builtin .append, args := #[s, y], argTypes := ts }) (hs : a.eval s = v) (hy : a.eval y = u) (h : (Builtin.append_ ts o.type #[v, u]).run P W = .ok v' W') :
    (execOp a.eval o).run P W = .ok (.value v') W' := by
  unfold execOp
  simp only [ho, resolve, invoke, builtin, Sem.run_bind, Sem.run_pure, Result.andThen_ok, List.map_toArray, List.map_cons, List.map_nil, hs, hy, h]
theorem lgRun_copyB (ts : Array TypeId) (s y : Operand) (v u v' : Value) (W W' : World) (ho : o.op = .call { callee := .builtin .copy, args := #[s, y], argTypes := ts }) (hs : a.eval s = v) (hy : a.eval y = u) (h : (Builtin.copy_ ts o.type #[v, u]).run P W = .ok v' W') :
    (execOp a.eval o).run P W = .ok (.value v') W' := by
  unfold execOp
  simp only [ho, resolve, invoke, builtin, Sem.run_bind, Sem.run_pure, Result.andThen_ok, List.map_toArray, List.map_cons, List.map_nil, hs, hy, h]
theorem wpL_append {ops : Array Oper} {rest : List Oper} {o : Oper} {a : Act} {w : World} {Q : Exit → Act → World → Prop} (hgd : o.guard = none) (s y : Operand) (ts : Array TypeId) (ho : o.op = .call { callee := .builtin .append, args := #[s, y], argTypes := ts })
    (v u v' : Value) (W' : World) (hs : a.eval s = v) (hy : a.eval y = u) (h : (Builtin.append_ ts o.type #[v, u]).run P w = .ok v' W') (k : wpList P ops Q rest (a.put o.dst v') W') : wpList P ops Q (o :: rest) a w :=
  wpList_plain hgd fun _ hK => by
    unfold Oper.wp
    rw [lgRun_append ts s y v u v' w W' ho hs hy h]
    exact hK _ _ k
theorem lgRun_copy (w : World) (dT sT ty elem : TypeId) (g o dLen dCap : Nat) (a : Addr) (sLen sCap size : Nat) (cur : Array Value) (t : TypeId) (cs : List Value)
    (hu : P.underlying dT = some (.slice elem)) (hs : (P.info? elem).map (·.size) = some size)
    (hg : w.heap[g]? = some (.cells cur t (0, 0))) (hn : cs.length = Nat.min sLen dLen * size)
    (hsrc : ∀ j v, cs[j]? = some v → w.cell? (a.add j) = some v) (hfit : o + cs.length ≤ cur.size) (h1 : ∀ v ∈ cs, v.oneCell' = true) :
    (Builtin.copy_ #[dT, sT] ty #[.slice (some ⟨g, o, none⟩) dLen dCap, .slice (some a) sLen sCap]).run P w =
      .ok (goInt (Nat.min sLen dLen)) (w.setRow g (cur.toList.take o ++ cs ++ cur.toList.drop (o + cs.length)).toArray) := by
  have hl := run_loadCells_list (P := P) w a cs hsrc
  have hst := run_storeCells_at P g o t cs 0 cur w hg (by simpa using hfit) h1
  rw [hn] at hl
  cases hq : P.info? elem with
  | none => simp [hq] at hs
  | some i =>
    have hi : i.size = size := by simpa [hq] using hs
    subst hi
    simp [Builtin.copy_, run_underlying hu, Builtin.lenOf, Builtin.firstCells, sizeOf, typeInfo, hq, hl, hst]
theorem KeepP.mono {st st' : Nat → Prop} {W W' : World} (h : KeepP st W W') (hs : ∀ k, st k → st' k) : KeepP st' W W' := ⟨h.os, h.tape, h.output, h.size, fun k hk hn => h.block k hk (fun e => hn (hs k e))⟩
end
end Go.Proofs.Ytoajnhngcfjohaa

/-! Lists of fields that a call made: how they grow. -/
namespace Go.Proofs.Ytoajnhngcfjohaa
open Go Go.RowKit

namespace Tb
theorem wpL_valP {P : Program} {ops : Array Oper} {rest : List Oper} {o : Oper} {a : Act} {w : World} {Q : Exit → Act → World → Prop} (hgd : o.guard = none) (v : Value) (w' : World) (he : (execOp a.eval o).run P w = .ok (.value v) w')
    (k : wpList P ops Q rest (a.put o.dst v) w') : wpList P ops Q (o :: rest) a w :=
  wpList_plain hgd fun _ hK => by
    unfold Oper.wp
    rw [he]
    exact hK _ _ k
/-- The cells of a list of fields. -/
def fds : List Fd → List Value
  | [] => []
  | f :: l => f.cells.toList ++ fds l
theorem fds_append : ∀ (l m : List Fd), fds (l ++ m) = fds l ++ fds m
  | [], m => rfl
  | x :: l, m => by
    show x.cells.toList ++ fds (l ++ m) = _
    rw [fds_append l m, ← List.append_assoc]
    rfl
theorem fds_one : ∀ (l : List Fd), ∀ u ∈ fds l, u.oneCell' = true
  | [], u, hu => by cases hu
  | x :: l, u, hu => by
    rcases List.mem_append.1 hu with h | h
    · simp [Fd.cells] at h
      rcases h with rfl | rfl <;> rfl
    · exact fds_one l u h
theorem fds_get : ∀ (l : List Fd) (j : Nat) (x : Fd) (i : Nat), l[j]? = some x → i < 2 → (fds l)[j * 2 + i]? = x.cells.toList[i]?
  | [], j, x, i, h, _ => by simp at h
  | y :: l, 0, x, i, h, hi => by
    simp at h
    subst h
    show (y.cells.toList ++ fds l)[0 * 2 + i]? = _
    rw [List.getElem?_append_left (by show 0 * 2 + i < 2; omega), show 0 * 2 + i = i by omega]
  | y :: l, j + 1, x, i, h, hi => by
    rw [List.getElem?_cons_succ] at h
    show (y.cells.toList ++ fds l)[(j + 1) * 2 + i]? = _
    rw [List.getElem?_append_right (by show 2 ≤ _; omega), show (j + 1) * 2 + i - y.cells.toList.length = j * 2 + i by show (j + 1) * 2 + i - 2 = _; omega]
    exact fds_get l j x i h hi
theorem Try.infoFieldP : (Try.prog.info? 23).map (fun i => (i.zero, i.size, i.bytes)) = some (some (.agg fd0.cells), 2, 32) := by kernel_rfl
theorem fdP_info : ∃ i0, Try.prog.info? 23 = some i0 ∧ i0.zero = some (.agg fd0.cells) ∧ i0.size = 2 ∧ i0.bytes = 32 := by
  have h := Try.infoFieldP
  cases hq : Try.prog.info? 23 with
  | none => rw [hq] at h; cases h
  | some i =>
    rw [hq] at h
    simp only [Option.map_some, Option.some.injEq, Prod.mk.injEq] at h
    exact ⟨i, rfl, h.1, h.2.1, h.2.2⟩
theorem fds_length : ∀ (l : List Fd), (fds l).length = l.length * 2
  | [] => rfl
  | x :: l => by
    show (x.cells.toList ++ fds l).length = _
    rw [List.length_append, fds_length l, List.length_cons]
    show 2 + _ = _
    omega
/-- Fields are appended: m of them, which lie at a place of their own, or amid another list. -/
theorem fds_append_from (w : World) (ty : TypeId) (v : Value) (l : List Fd) (h : RowO w 23 2 v l.length (fds l)) (hl : l.length ≤ 100000) (xs : List Fd) (p : Addr) (c : Nat) (hx : xs.length ≤ 100000)
    (hc : ∀ j u, (fds xs)[j]? = some u → w.cell? (p.add j) = some u) :
    ∃ v' w', (Builtin.append_ #[49, 49] ty #[v, .slice (some p) xs.length c]).run Try.prog w = .ok v' w' ∧ RowO w' 23 2 v' (l ++ xs).length (fds (l ++ xs)) ∧
      (v'.ownBlock = v.ownBlock ∧ v.ownBlock ≠ none ∧ w.grownBy w' v.ownBlock ∨ w.grownBy w' none ∧ (∀ k, v'.ownBlock = some k → k = w.heap.size)) := by
  obtain ⟨i0, h1, h2, h3, h4⟩ := fdP_info
  rw [List.length_append, fds_append]
  exact run_append_O (P := Try.prog) w 49 ty 23 i0 _ 2 32 Try.underlying49 h1 h2 h3 h4 rfl (by decide) v l.length (fds l) h p xs.length c (fds xs) (fds_length _) hc (fds_one _) (by unfold maxLen; omega) (by omega)
end Tb
end Go.Proofs.Ytoajnhngcfjohaa
