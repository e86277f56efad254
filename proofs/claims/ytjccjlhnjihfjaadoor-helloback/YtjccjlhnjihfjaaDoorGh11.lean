/-
  Out of RgMem, ChaSame, FrMem, FrLis, RgSet, FrTools.
-/
import Derived.Test.YtjccjlhnjihfjaaDoorGh8
import Derived.Test.YtjccjlhnjihfjaaDoorGh1
import Derived.Test.YtjccjlhnjihfjaaDoorRows
import Derived.BigQuiet
import Derived.Test.YtjccjlhnjihfjaaDoorGh2
import Derived.BigRegion
import Derived.Test.YtjccjlhnjihfjaaDoorGh10
import Derived.Deep.MidRow
import Derived.Test.YtjccjlhnjihfjaaDoorGh9

/-! Ranges in memory. -/
namespace Go.Proofs.YtjccjlhnjihfjaaDoor
open Go Go.RowKit

def gr (l : List (Nat × Nat)) (j : Nat) : Nat × Nat := l[j]?.getD (0, 0)
/-- A slice of ranges, and what lies in it. -/
structure RL where
  a : Option Addr
  len : Nat
  cap : Nat
  g : Nat
  off : Nat
  l : List (Nat × Nat)
structure RL.Ok (w : World) (s : RL) : Prop where
  hb : s.l.length = s.len
  hcap : s.len ≤ s.cap
  nil : s.a = none → s.len = 0 ∧ s.cap = 0
  at_ : 0 < s.len → s.a = some ⟨s.g, s.off, none⟩
  lt : 0 < s.len → s.g < w.heap.size
  cell : ∀ j : Nat, j < s.len → w.cell? ⟨s.g, s.off + j * 2, none⟩ = some (.int .u64 ((gr s.l j).1 : Int)) ∧ w.cell? ⟨s.g, s.off + j * 2 + 1, none⟩ = some (.int .u64 ((gr s.l j).2 : Int))
  small : ∀ j, (gr s.l j).1 < 18446744073709551616 ∧ (gr s.l j).2 < 18446744073709551616
theorem RL.Ok.same {w w' : World} {s : RL} (h : s.Ok w) (hs : 0 < s.len → w'.heap[s.g]? = w.heap[s.g]?) (hz : w.heap.size ≤ w'.heap.size) : s.Ok w' :=
  ⟨h.hb, h.hcap, h.nil, h.at_, fun p => Nat.lt_of_lt_of_le (h.lt p) hz, fun j hj => ⟨(World.cell?_of_block (a := ⟨s.g, s.off + j * 2, none⟩) (hs (by omega))).trans (h.cell j hj).1, (World.cell?_of_block (a := ⟨s.g, s.off + j * 2 + 1, none⟩) (hs (by omega))).trans (h.cell j hj).2⟩, h.small⟩
theorem RL.Ok.below {w w' : World} {s : RL} (h : s.Ok w) (hb : Below w.heap.size w w') : s.Ok w' := h.same (fun p => hb.block _ (h.lt p)) hb.size


end Go.Proofs.YtjccjlhnjihfjaaDoor

/-! What SameBytes answers of slices with the same bytes. -/
namespace Go.Proofs.YtjccjlhnjihfjaaDoor
open Go Go.RowKit

end Go.Proofs.YtjccjlhnjihfjaaDoor

/-! Ranges and frames in memory. -/
namespace Go.Proofs.YtjccjlhnjihfjaaDoor
open Go Go.RowKit

/-- A frame, and the slices in it. -/
structure FrM where
  kind : Nat
  stream : Nat
  offset : Nat
  limit : Nat
  code : Nat
  fin : Bool
  data : SL
  ranges : RL
def FrM.cells (f : FrM) : Array Value := #[.int .u8 (f.kind : Int), .int .u64 (f.stream : Int), .int .u64 (f.offset : Int), .int .u64 (f.limit : Int), .int .u64 (f.code : Int), .bool f.fin, .slice f.data.a f.data.len f.data.cap, .slice f.ranges.a f.ranges.len f.ranges.cap]
def FrM.fr (f : FrM) : Fr.Frame := ⟨f.kind, f.stream, f.offset, f.limit, f.code, f.fin, f.data.b, f.ranges.l⟩
structure FrM.Ok (w : World) (f : FrM) : Prop where
  data : f.data.Ok w
  ranges : f.ranges.Ok w
  k8 : f.kind < 256
  st : f.stream < 18446744073709551616
  of : f.offset < 18446744073709551616
  li : f.limit < 18446744073709551616
  co : f.code < 18446744073709551616
theorem FrM.Ok.below {w w' : World} {f : FrM} (h : f.Ok w) (hb : Below w.heap.size w w') : f.Ok w' := ⟨h.data.below hb, h.ranges.below hb, h.k8, h.st, h.of, h.li, h.co⟩
end Go.Proofs.YtjccjlhnjihfjaaDoor

/-! Lists of frames in memory. -/
namespace Go.Proofs.YtjccjlhnjihfjaaDoor
open Go Go.RowKit

section
variable {P : Program} {a : Act} {o : Oper}
end
def f0M : FrM := ⟨0, 0, 0, 0, 0, false, ⟨none, 0, 0, 0, 0, []⟩, ⟨none, 0, 0, 0, 0, []⟩⟩
def gf (l : List FrM) (j : Nat) : FrM := l[j]?.getD f0M
/-- A slice of frames, and what lies in it. -/
structure FS where
  a : Option Addr
  len : Nat
  cap : Nat
  g : Nat
  off : Nat
  l : List FrM
structure FS.Ok (w : World) (s : FS) : Prop where
  hb : s.l.length = s.len
  hcap : s.len ≤ s.cap
  nil : s.a = none → s.len = 0 ∧ s.cap = 0
  at_ : 0 < s.len → s.a = some ⟨s.g, s.off, none⟩
  lt : 0 < s.len → s.g < w.heap.size
  cell : ∀ j : Nat, j < s.len → w.rangeAt s.g (s.off + j * 8) (gf s.l j).cells.toList
  each : ∀ j : Nat, j < s.len → (gf s.l j).Ok w
theorem FS.Ok.below {w w' : World} {s : FS} (h : s.Ok w) (hb : Below w.heap.size w w') : s.Ok w' :=
  ⟨h.hb, h.hcap, h.nil, h.at_, fun p => Nat.lt_of_lt_of_le (h.lt p) hb.size, fun j hj i v hv => (hb.cell (p := ⟨s.g, s.off + j * 8 + i, none⟩) (h.lt (by omega))).trans (h.cell j hj i v hv), fun j hj => (h.each j hj).below hb⟩
/-- The frames themselves. -/
def FS.fr (s : FS) : List Fr.Frame := s.l.map FrM.fr
end Go.Proofs.YtjccjlhnjihfjaaDoor

/-! Ranges that are a set, one by one. -/
namespace Go.Proofs.YtjccjlhnjihfjaaDoor
open Go Go.RowKit

end Go.Proofs.YtjccjlhnjihfjaaDoor

/-! Helpers of layer 7: no program in sight but its types' numbers. -/
namespace Go.Proofs.YtjccjlhnjihfjaaDoor
open Go Go.RowKit

/-- What is done to a row of the call's own: below its base all is as it was, and so is all that is no row of bytes. -/
structure Keep (base : Nat) (w w' : World) : Prop where
  bel : Below base w w'
  oth : ∀ (p : Nat) (cs : Array Value) (t : TypeId) (fr : Nat × Nat), t ≠ 5 → w.heap[p]? = some (.cells cs t fr) → w'.heap[p]? = some (.cells cs t fr)
theorem Keep.refl (base : Nat) (w : World) : Keep base w w := ⟨Below.refl _ _, fun _ _ _ _ _ h => h⟩
theorem Keep.trans {base : Nat} {a b c : World} (h : Keep base a b) (k : Keep base b c) : Keep base a c := ⟨h.bel.trans k.bel, fun p cs t fr ht hp => k.oth p cs t fr ht (h.oth p cs t fr ht hp)⟩
theorem Keep.of_below {base : Nat} {w w' : World} (h : Below w.heap.size w w') (hb : base ≤ w.heap.size) : Keep base w w' :=
  ⟨h.mono hb, fun p _ _ _ _ hp => (h.block p (Array.getElem?_eq_some_iff.1 hp).1).trans hp⟩
theorem Keep.row {base g : Nat} {t : TypeId} {cs : Array Value} {w w' : World} (h : Keep base w w') (ht : t ≠ 5) (r : Row w g t cs) : Row w' g t cs := h.oth g cs t _ ht r
theorem Keep.size {base : Nat} {w w' : World} (h : Keep base w w') : w.heap.size ≤ w'.heap.size := h.bel.size

theorem run_cellF {P : Program} {a : Act} {o : Oper} (ty : TypeId) (x : Operand) (p : Addr) (v : Value) (d : TypeDesc) (ho : o.op = .load ty x) (hx : a.eval x = .pointer (some p)) (hu : P.underlying ty = some d) (hd : (match d with | .struct _ | .array _ _ => true | _ => false) = false)
    (W : World) (hv : W.cell? p = some v) : (execOp a.eval o).run P W = .ok (.value v) W := by
  have hag : (isAgg ty).run P W = .ok false W := by
    unfold isAgg
    rw [Sem.run_bind, run_underlying hu W]
    cases d <;> simp_all
  unfold execOp
  simp [ho, hx, Instr.loadAt, Instr.sureAddr, loadVar, hag, hv]
theorem own_shapeF {w : World} {base n : Nat} {v : Value} {xs : List Value} (h : w.ownsRow base 5 1 v n xs) : ∃ a c, v = .slice a n c := by
  rcases h.2 with ⟨rfl, rfl⟩ | ⟨g, c, _, rfl, _⟩
  · exact ⟨none, 0, rfl⟩
  · exact ⟨_, c, rfl⟩

/-- What Put answers: the error's number. -/
noncomputable def putE (l : List Fr.Frame) : Nat := open Classical in if (∀ f ∈ l, Fr.mayF f) ∧ Fr.sepL false l then (if 1024 < l.length then 3 else if 1048576 < (Fr.putAll l).length then 3 else 0) else 1
noncomputable def putO (l : List Fr.Frame) : List By := if putE l = 0 then Fr.putAll l else []
/-- What is left of a slice behind k bytes. -/
def cutF (s : SL) (k : Nat) : SL := match s.a with
  | none => s
  | some _ => if k = s.cap then ⟨some ⟨s.g, s.off, none⟩, s.len - k, s.cap - k, s.g, s.off, s.b.drop k⟩ else ⟨some ⟨s.g, s.off + k, none⟩, s.len - k, s.cap - k, s.g, s.off + k, s.b.drop k⟩
/-- A slice whose place is told. -/
def SL.Told (s : SL) : Prop := ∀ p, s.a = some p → p = ⟨s.g, s.off, none⟩
theorem cutF_ok {w : World} {s : SL} (h : s.Ok w) (ht : s.Told) (k : Nat) (hk : k ≤ s.len) : (cutF s k).Ok w ∧ (cutF s k).Told ∧ (cutF s k).len = s.len - k ∧ (cutF s k).b = s.b.drop k ∧ (cutF s k).g = s.g := by
  unfold cutF
  cases ha : s.a with
  | none =>
    have h0 := (h.nil ha).1
    have hb := h.hb
    have e : s.b = [] := List.eq_nil_of_length_eq_zero (by omega)
    exact ⟨h, ht, by show s.len = s.len - k; omega, by show s.b = s.b.drop k; rw [e]; simp, rfl⟩
  | some p =>
    have hc := h.hcap
    simp only
    split
    · rename_i e
      refine ⟨⟨?_, ?_, fun q => by simp at q, fun _ => rfl, fun q => ?_, fun j hj => ?_⟩, fun q hq => (Option.some.inj hq).symm, rfl, rfl, rfl⟩
      · show (s.b.drop k).length = s.len - k; rw [List.length_drop, h.hb]
      · show s.len - k ≤ s.cap - k; omega
      · have : 0 < s.len - k := q; omega
      · have : j < s.len - k := hj; omega
    · refine ⟨⟨?_, ?_, fun q => by simp at q, fun _ => rfl, fun q => ?_, fun j hj => ?_⟩, fun q hq => (Option.some.inj hq).symm, rfl, rfl, rfl⟩
      · show (s.b.drop k).length = s.len - k; rw [List.length_drop, h.hb]
      · show s.len - k ≤ s.cap - k; omega
      · have : 0 < s.len - k := q
        exact h.lt (by omega)
      · have hj' : j < s.len - k := hj
        have := h.cell (k + j) (by omega)
        show w.cell? ⟨s.g, s.off + k + j, none⟩ = some (.int .u8 (v8 (gb (s.b.drop k) j)))
        rw [Nat.add_assoc, this]
        unfold gb
        rw [List.getElem?_drop]
theorem run_cutF {P : Program} {a : Act} {o : Oper} (t e : TypeId) (x lo : Operand) (s : SL) (n : Nat) (ht : s.Told) (hnil : s.a = none → s.len = 0 ∧ s.cap = 0) (ho : o.op = .slice t x (some lo) none none) (hx : a.eval x = .slice s.a s.len s.cap) (hh : a.eval lo = .int .i64 (n : Int)) (hu : P.underlying t = some (.slice e)) (hi1 : (P.info? e).map (·.size) = some 1) (hn : n ≤ s.len) (W : World) :
    (execOp a.eval o).run P W = .ok (.value (.slice (cutF s n).a (cutF s n).len (cutF s n).cap)) W := by
  have hsz : (sizeOf e).run P W = .ok 1 W := by
    cases hq : P.info? e with
    | none => simp [hq] at hi1
    | some i =>
      have : i.size = 1 := by simpa [hq] using hi1
      simp [sizeOf, typeInfo, hq, this]
  cases ha : s.a with
  | none =>
    obtain ⟨h1, h2⟩ := hnil ha
    have h3 : n = 0 := by omega
    have hd : cutF s n = s := by unfold cutF; rw [ha]
    rw [hd, ha, h1, h2]
    rw [ha, h1, h2] at hx
    subst h3
    unfold execOp
    simp [ho, hx, hh, Instr.sliceAt, Instr.slice, Instr.sliceBounds, Instr.sliceBound, asIntOf, run_underlying hu, hsz]
  | some p =>
    have hp := ht p ha
    rw [ha, hp] at hx
    unfold execOp
    by_cases e' : n = s.cap
    · have hd : cutF s n = ⟨some ⟨s.g, s.off, none⟩, s.len - n, s.cap - n, s.g, s.off, s.b.drop n⟩ := by unfold cutF; rw [ha]; simp only; rw [if_pos e']
      simp [ho, hx, hh, hd, Instr.sliceAt, Instr.slice, Instr.sliceBounds, Instr.sliceBound, asIntOf, run_underlying hu, hsz, hn, e'.symm]
    · have hd : cutF s n = ⟨some ⟨s.g, s.off + n, none⟩, s.len - n, s.cap - n, s.g, s.off + n, s.b.drop n⟩ := by unfold cutF; rw [ha]; simp only; rw [if_neg e']
      simp [ho, hx, hh, hd, Instr.sliceAt, Instr.slice, Instr.sliceBounds, Instr.sliceBound, asIntOf, run_underlying hu, hsz, hn, Addr.add_mid, show ¬ s.cap = n from fun q => e' q.symm]
theorem value_wp {P : Program} {a : Act} {o : Oper} {ops : Array Oper} {rest : List Oper} {w : World} {Q : Exit → Act → World → Prop} (hgd : o.guard = none) (v : Value) (he : (execOp a.eval o).run P w = .ok (.value v) w) (h : wpList P ops Q rest (a.put o.dst v) w) : wpList P ops Q (o :: rest) a w :=
  wpList_plain hgd fun _ hK => by
    unfold Oper.wp
    rw [he]
    exact hK _ _ h
theorem grown_refl (w : World) (r : Option Nat) : w.grownBy w r := ⟨rfl, rfl, rfl, Nat.le_refl _, fun _ _ _ => rfl⟩
theorem grown_set {w w' : World} {g j : Nat} {v : Value} (h : w.grownBy w' (some g)) : w.grownBy (w'.setCell ⟨g, j, none⟩ v) (some g) :=
  ⟨h.os, h.tape, h.output, by simp [World.setCell]; exact h.size, fun k hk hne => (Below.heap_setCell _ _ _ _ (fun e => hne (by rw [e]))).trans (h.block k hk hne)⟩
theorem SL.Ok.apart {w w' : World} {s : SL} {g : Nat} (h : s.Ok w) (hg : w.grownBy w' (some g)) (hne : 0 < s.len → s.g ≠ g) : s.Ok w' := h.same (fun p => hg.block _ (h.lt p) (fun e => hne p (Option.some.inj e))) hg.size

def headF (s : SL) (n : Nat) : SL := ⟨s.a, n, s.cap, s.g, s.off, s.b.take n⟩
theorem headF_ok {w : World} {s : SL} (h : s.Ok w) (n : Nat) (hn : n ≤ s.len) : (headF s n).Ok w :=
  ⟨by show (s.b.take n).length = n; rw [List.length_take, h.hb]; omega, Nat.le_trans hn h.hcap, fun e => ⟨by have := (h.nil e).1; show n = 0; omega, (h.nil e).2⟩, fun p => h.at_ (Nat.lt_of_lt_of_le p hn), fun p => h.lt (Nat.lt_of_lt_of_le p hn), fun j hj => by
    have hj' : j < n := hj
    refine (h.cell j (by omega)).trans ?_
    show _ = some (Value.int .u8 (v8 (gb (s.b.take n) j)))
    unfold gb
    rw [List.getElem?_take, if_pos hj']⟩
end Go.Proofs.YtjccjlhnjihfjaaDoor
