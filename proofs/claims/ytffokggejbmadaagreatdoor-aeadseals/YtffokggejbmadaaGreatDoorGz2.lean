/-
  Out of ChaXorP, ShaIn, HkIn, ShaLoop, PlInv, PlMath, PlCarried, PlSum.
-/
import Derived.Test.YtffokggejbmadaaGreatDoorGz1
import Derived.Deep.MidRow
import Derived.RangeFuncNested
import Derived.RangeFuncBox
import Derived.RangeFuncBound
import Derived.RangeFuncCalls
import Derived.RangeFuncLeaves
import Derived.Shelf.Abstract
import Derived.Shelf.RegionOpen
import Derived.OwnWalkIn
import Derived.TacticsInMore
import Derived.LoopNIn
import Derived.LoopIn
import Derived.Maps.AppendAt
import Derived.OrdersIn
import Derived.Test.YtffokggejbmadaaGreatDoorRows
import Derived.WalkMore

/-! Bytes against the stream, on lists: no program in sight. -/
namespace Go.Proofs.YtffokggejbmadaaGreatDoor
open Go

def xb (x y : By) : By := x ^^^ y
theorem v8_nat (x : By) : (v8 x).toNat = x.toNat := by unfold v8; omega
theorem bxb (x y : By) : bits .xor .u8 (v8 x) (v8 y) = v8 (xb x y) := by
  rw [u8_xor _ _ (v8_nn x) (by have := v8_le x; omega) (v8_nn y) (by have := v8_le y; omega), v8_nat, v8_nat]
  unfold v8 xb
  rw [BitVec.toNat_xor]
theorem xb_xb (x y : By) : xb (xb x y) y = x := by
  unfold xb
  rw [BitVec.xor_assoc, BitVec.xor_self, BitVec.xor_zero]
/-- A count that is so many more. -/
def cnt (count : Wd) (i : Nat) : Wd := ad count (BitVec.ofNat 32 i)
theorem u_ofNat (i : Nat) (h : i < 4294967296) : u (BitVec.ofNat 32 i) = (i : Int) := by
  unfold u
  rw [BitVec.toNat_ofNat]
  omega
theorem u_cnt (count : Wd) (i : Nat) (h : i < 4294967296) : (u count + (i : Int)) % 4294967296 = u (cnt count i) := by
  rw [← u_ofNat i h, wadd]
  rfl
theorem cnt_cnt (count : Wd) (i j : Nat) : cnt (cnt count i) j = cnt count (i + j) := by
  unfold cnt ad
  rw [BitVec.add_assoc, BitVec.ofNat_add_ofNat]
theorem cnt_zero (count : Wd) : cnt count 0 = count := by
  unfold cnt ad
  simp
/-- The stream's byte at a place; so many of them. -/
def sby (key : List By) (count : Wd) (nonce : List By) (p : Nat) : By := gb (blockL key (cnt count (p / 64)) nonce) (p % 64)
def sbTo (key : List By) (count : Wd) (nonce : List By) (N : Nat) : List By := (List.range N).map (sby key count nonce)
theorem sbTo_length (key : List By) (count : Wd) (nonce : List By) (N : Nat) : (sbTo key count nonce N).length = N := by simp [sbTo]
theorem sbTo_succ (key : List By) (count : Wd) (nonce : List By) (N : Nat) : sbTo key count nonce (N + 1) = sbTo key count nonce N ++ [sby key count nonce N] := by
  unfold sbTo
  rw [List.range_succ, List.map_append, List.map_singleton]
theorem sbTo_get (key : List By) (count : Wd) (nonce : List By) (N p : Nat) (h : p < N) : gb (sbTo key count nonce N) p = sby key count nonce p := by
  unfold gb sbTo
  simp [h]
/-- Bytes against bytes; so many of them. -/
def zipX (b s : List By) : List By := (List.range s.length).map fun p => xb (gb b p) (gb s p)
theorem zipX_length (b s : List By) : (zipX b s).length = s.length := by simp [zipX]
theorem zipX_snoc (b s : List By) (x : By) : zipX b (s ++ [x]) = zipX b s ++ [xb (gb b s.length) x] := by
  unfold zipX
  rw [List.length_append, List.length_singleton, List.range_succ, List.map_append, List.map_singleton]
  congr 1
  · apply List.map_congr_left
    intro p hp
    have hp' := List.mem_range.1 hp
    unfold gb
    rw [List.getElem?_append_left hp']
  · unfold gb
    simp
theorem zipX_gb (b s : List By) (p : Nat) (h : p < s.length) : gb (zipX b s) p = xb (gb b p) (gb s p) := by
  unfold zipX
  show gb (List.map _ _) p = _
  unfold gb
  simp [h]
def xorL (key : List By) (count : Wd) (nonce : List By) (b : List By) : List By := zipX b (sbTo key count nonce b.length)
theorem xorL_length (key : List By) (count : Wd) (nonce : List By) (b : List By) : (xorL key count nonce b).length = b.length := by unfold xorL; rw [zipX_length, sbTo_length]
theorem xorL_gb (key : List By) (count : Wd) (nonce : List By) (b : List By) (p : Nat) (h : p < b.length) : gb (xorL key count nonce b) p = xb (gb b p) (sby key count nonce p) := by
  unfold xorL
  rw [zipX_gb _ _ _ (by rw [sbTo_length]; exact h), sbTo_get _ _ _ _ _ h]
theorem gb_ext {a b : List By} (hl : a.length = b.length) (h : ∀ p, p < a.length → gb a p = gb b p) : a = b := by
  apply List.ext_getElem hl
  intro p h1 h2
  have := h p h1
  unfold gb at this
  rw [List.getElem?_eq_getElem h1, List.getElem?_eq_getElem h2] at this
  exact this
theorem xorL_twice (key : List By) (count : Wd) (nonce : List By) (b : List By) : xorL key count nonce (xorL key count nonce b) = b := by
  apply gb_ext (by rw [xorL_length, xorL_length])
  intro p hp
  rw [xorL_length, xorL_length] at hp
  rw [xorL_gb _ _ _ _ _ (by rw [xorL_length]; exact hp), xorL_gb _ _ _ _ _ hp, xb_xb]
end Go.Proofs.YtffokggejbmadaaGreatDoor

/-! Whole arrays inside a fence: laws of the walk. -/
namespace Go.Proofs.YtffokggejbmadaaGreatDoor
open Go Go.RowKit

section
variable {F : Fence} {n : Nat} {P : Program} {ops : Array Oper} {rest : List Oper} {o : Oper} {a : Act} {w : World} {Q : Exit → Act → World → Prop}

theorem about_none (h : ∀ c, o.op ≠ .call c) : o.about P w a.eval = none := by
  unfold Oper.about
  split
  · rename_i c hc; exact absurd hc (h c)
  · rfl

theorem plain_value (hgd : o.guard = none) (hc : ∀ c, o.op ≠ .call c) (hd : ∀ c, o.op ≠ .defer c) (v : Value) (he : (execOp a.eval o).run P w = .ok (.value v) w)
    (h : wpListIn F n P ops Q rest (a.put o.dst v) w) : wpListIn F n P ops Q (o :: rest) a w :=
  wpListIn_plain hgd fun _ hK => ⟨(fun f hf => by rw [about_none hc] at hf; cases hf), (by rw [Oper.semAt_eq _ _ _ hd, he]; exact hK _ _ h)⟩
theorem plain_skip (hgd : o.guard = none) (hc : ∀ c, o.op ≠ .call c) (hd : ∀ c, o.op ≠ .defer c) (w' : World) (he : (execOp a.eval o).run P w = .ok .skip w')
    (h : wpListIn F n P ops Q rest (a.put o.dst undef) w') : wpListIn F n P ops Q (o :: rest) a w :=
  wpListIn_plain hgd fun _ hK => ⟨(fun f hf => by rw [about_none hc] at hf; cases hf), (by rw [Oper.semAt_eq _ _ _ hd, he]; exact hK _ _ h)⟩

theorem load_rowIn (hgd : o.guard = none) (ty : TypeId) (x : Operand) (ho : o.op = .load ty x) (g : Nat) (hx : a.eval x = .pointer (some ⟨g, 0, none⟩)) (t : TypeId) (cs : Array Value) (hg : Row w g t cs) (m : Nat) (e : TypeId)
    (hu : P.underlying ty = some (.array m e)) (hi : (P.info? ty).map (·.size) = some m) (hc : cs.size = m) (h : wpListIn F n P ops Q rest (a.put o.dst (.agg cs)) w) : wpListIn F n P ops Q (o :: rest) a w :=
  plain_value hgd (by simp [ho]) (by simp [ho]) _ (run_load_row ty x ho g hx t cs m e hu hi hc w hg) h

/-- A whole array in the midst of a block. -/
theorem load_midIn (hgd : o.guard = none) (ty : TypeId) (x : Operand) (ho : o.op = .load ty x) (g off : Nat) (hx : a.eval x = .pointer (some ⟨g, off, none⟩)) (cs : List Value) (hg : w.rangeAt g off cs) (m : Nat) (e : TypeId)
    (hu : P.underlying ty = some (.array m e)) (hi : (P.info? ty).map (·.size) = some m) (hc : cs.length = m) (h : wpListIn F n P ops Q rest (a.put o.dst (.agg cs.toArray)) w) : wpListIn F n P ops Q (o :: rest) a w :=
  plain_value hgd (by simp [ho]) (by simp [ho]) _ (by
    unfold execOp
    simp only [ho, hx, Instr.loadAt, Instr.sureAddr, Sem.run_bind, Sem.run_pure, Result.andThen_ok, run_loadVar_mid w g off ty cs _ hg hu rfl (by rw [hc]; exact hi)]) h

theorem run_store_row (ty : TypeId) (x y : Operand) (ho : o.op = .store ty x y) (g : Nat) (cs : Array Value) (hx : a.eval x = .pointer (some ⟨g, 0, none⟩)) (hy : a.eval y = .agg cs) (t : TypeId) (old : Array Value) (hg : Row w g t old)
    (m : Nat) (hi : (P.info? ty).map (·.size) = some m) (hs : old.size = m) (hc : cs.size = m) (h1 : cs.all (·.oneCell') = true) : (execOp a.eval o).run P w = .ok .skip (w.setRow g cs) := by
  unfold execOp
  simp only [ho, hx, hy, Instr.storeAt, Instr.sureAddr, Sem.run_bind, Sem.run_pure, Result.andThen_ok, run_storeVar_row w g t ty old cs hg (by rw [hc]; exact hi) (by omega) h1]
theorem store_rowIn (hgd : o.guard = none) (ty : TypeId) (x y : Operand) (ho : o.op = .store ty x y) (g : Nat) (cs : Array Value) (hx : a.eval x = .pointer (some ⟨g, 0, none⟩)) (hy : a.eval y = .agg cs) (t : TypeId) (old : Array Value) (hg : Row w g t old)
    (m : Nat) (hi : (P.info? ty).map (·.size) = some m) (hs : old.size = m) (hc : cs.size = m) (h1 : cs.all (·.oneCell') = true) (h : wpListIn F n P ops Q rest (a.put o.dst undef) (w.setRow g cs)) : wpListIn F n P ops Q (o :: rest) a w :=
  plain_skip hgd (by simp [ho]) (by simp [ho]) _ (run_store_row ty x y ho g cs hx hy t old hg m hi hs hc h1) h
theorem store_newIn (hgd : o.guard = none) (ty : TypeId) (x y : Operand) (ho : o.op = .store ty x y) (g : Nat) (cs : Array Value) (hx : a.eval x = .pointer (some ⟨g, 0, none⟩)) (hy : a.eval y = .agg cs) (t : TypeId) (old : Array Value) (hg : w.heap.size = g)
    (m : Nat) (hi : (P.info? ty).map (·.size) = some m) (hs : old.size = m) (hc : cs.size = m) (h1 : cs.all (·.oneCell') = true) (h : wpListIn F n P ops Q rest (a.put o.dst undef) (w.alloc (.cells cs t))) : wpListIn F n P ops Q (o :: rest) a (w.alloc (.cells old t)) := by
  subst hg
  refine store_rowIn hgd ty x y ho w.heap.size cs hx hy t old (Row.new _ _ _) m hi hs hc h1 ?_
  rw [World.setRow_alloc_new]
  exact h
/-- A new array, all zero. -/
theorem alloc_rowIn (hgd : o.guard = none) (t : TypeId) (ho : o.op = .alloc t) (cs : Array Value) (hz : (P.info? t).map (·.zero) = some (some (.agg cs))) (h : wpListIn F n P ops Q rest (a.put o.dst (.pointer (some ⟨w.heap.size, 0, none⟩))) (w.alloc (.cells cs t))) : wpListIn F n P ops Q (o :: rest) a w :=
  wpListIn_plain hgd fun _ hK => ⟨(fun f hf => by rw [about_none (by simp [ho])] at hf; cases hf), (by
    rw [Oper.semAt_eq _ _ _ (by simp [ho])]
    have hzv : (zeroValue t).run P w = .ok (.agg cs) w := by
      cases hq : P.info? t with
      | none => simp [hq] at hz
      | some i =>
        have : i.zero = some (.agg cs) := by simpa [hq] using hz
        simp [zeroValue, typeInfo, hq, this]
    have he : (execOp a.eval o).run P w = .ok (.value (.pointer (some ⟨w.heap.size, 0, none⟩))) (w.alloc (.cells cs t)) := by
      unfold execOp
      simp only [ho, Instr.alloc, Sem.run_bind, hzv, Result.andThen_ok, newVar, newRow, Value.cells, run_newObj_alloc, Sem.run_pure]
    rw [he]
    exact hK _ _ h)⟩
theorem build_rowIn (hgd : o.guard = none) (t : TypeId) (parts : Array (Nat × Operand)) (ho : o.op = .build t parts) (cs : Array Value) (hb : P.built t (parts.map fun (i, x) => (i, a.eval x)).toList = some cs)
    (h : wpListIn F n P ops Q rest (a.put o.dst (.agg cs)) w) : wpListIn F n P ops Q (o :: rest) a w :=
  plain_value hgd (by simp [ho]) (by simp [ho]) _ (by
    unfold execOp
    simp only [ho, Sem.run_bind, run_build w t _ cs hb, Result.andThen_ok, Sem.run_pure]) h
end
end Go.Proofs.YtffokggejbmadaaGreatDoor

/-! A region inside a fence that draws its order: operations that come up alone, and many that only read. Written by mkquiet.py. -/
namespace Go.Proofs.YtffokggejbmadaaGreatDoor
open Go Go.RowKit

section
variable {F : Fence} {n : Nat} {P : Program} {ops : Array Oper} {Q : Exit → Act → World → Prop} {md : Region.Mode} {fuel : Nat} {listed : Array Bool} {a : Act} {w : World}
theorem I_all {rs : List Nat} (hr : Region.ready md ops listed = rs) (hne : rs ≠ [])
    (h : ∀ i ∈ rs, wpOpIn F n P ops Q i (wpAnyIn F n P md ops Q fuel (listed.setIfInBounds i true)) a w) : wpAnyIn F n P md ops Q (fuel + 1) listed a w :=
  ⟨fun h0 => absurd (hr ▸ h0) hne, hr ▸ h⟩
theorem I_one (i : Nat) (hr : Region.ready md ops listed = [i]) (h : wpOpIn F n P ops Q i (wpAnyIn F n P md ops Q fuel (listed.setIfInBounds i true)) a w) : wpAnyIn F n P md ops Q (fuel + 1) listed a w :=
  I_all hr (by simp) (fun j hj => by obtain rfl : j = i := by simpa using hj
                                     exact h)
theorem I_done (hr : Region.ready md ops listed = []) (h : Q .normal a w) : ∀ fuel, wpAnyIn F n P md ops Q fuel listed a w
  | 0 => ⟨hr, h⟩
  | _ + 1 => ⟨fun _ => h, by rw [hr]; simp⟩
theorem about_builtin {o : Oper} (b : Builtin) (args : Array Operand) (tys : Array TypeId) (ho : o.op = .call { callee := .builtin b, args := args, argTypes := tys }) : o.about P w a.eval = none := by
  unfold Oper.about
  simp only [ho, resolve, Sem.run_pure]
  rfl
theorem OI_value {o : Oper} {i : Nat} {K : Act → World → Prop} (hi : ops[i]? = some o) (hw : Region.wanted o (yielded ops a.tmps) = true) (hab : o.about P w a.eval = none) (hd : ∀ c, o.op ≠ .defer c) (v : Value) (w' : World)
    (he : (execOp a.eval o).run P w = .ok (.value v) w') (h : K (a.put o.dst v) w') : wpOpIn F n P ops Q i K a w := by
  unfold wpOpIn
  simp only [hi, hw, if_true]
  unfold Oper.wpIn
  refine ⟨fun f hf => (by rw [hab] at hf; cases hf), ?_⟩
  rw [Oper.semAt_eq _ _ _ hd, he]
  exact h
theorem OI_skip {o : Oper} {i : Nat} {K : Act → World → Prop} (hi : ops[i]? = some o) (hw : Region.wanted o (yielded ops a.tmps) = true) (hab : o.about P w a.eval = none) (hd : ∀ c, o.op ≠ .defer c) (w' : World)
    (he : (execOp a.eval o).run P w = .ok .skip w') (h : K (a.put o.dst undef) w') : wpOpIn F n P ops Q i K a w := by
  unfold wpOpIn
  simp only [hi, hw, if_true]
  unfold Oper.wpIn
  refine ⟨fun f hf => (by rw [hab] at hf; cases hf), ?_⟩
  rw [Oper.semAt_eq _ _ _ hd, he]
  exact h
theorem OI_call {o : Oper} {i : Nat} {K : Act → World → Prop} (hi : ops[i]? = some o) (hw : Region.wanted o (yielded ops a.tmps) = true) (hd : ∀ c, o.op ≠ .defer c) (f : Nat) (args : Array Value) (hab : ∀ g, o.about P w a.eval = some g → F.fn g)
    (he : (execOp a.eval o).run P w = .ok (.enter f args) w) (hn : 1 ≤ n) (hc : CallsIn F (n - 1) P f args w fun e w' => ∃ v, e = .returned v ∧ K (a.put o.dst v) w') : wpOpIn F n P ops Q i K a w := by
  unfold wpOpIn
  simp only [hi, hw, if_true]
  unfold Oper.wpIn
  refine ⟨hab, ?_⟩
  rw [Oper.semAt_eq _ _ _ hd, he]
  exact ⟨fun _ => hn, hc.mono (by rintro e w' ⟨v, rfl, h⟩; exact h)⟩
end

set_option maxHeartbeats 1000000 in
theorem quiet_told {F : Fence} {n : Nat} {P : Program} {ops : Array Oper} {Q : Exit → Act → World → Prop} {W : World} (tm : Value → Value → Value → Value → Value → Value → Value → Act) (l : Bool → Bool → Bool → Bool → Bool → Bool → Bool → Array Bool) (x0 x1 x2 x3 x4 x5 x6 : Value)
    (l0 : ∀ c1 c2 c3 c4 c5 c6, (l false c1 c2 c3 c4 c5 c6).setIfInBounds 0 true = l true c1 c2 c3 c4 c5 c6)
    (l1 : ∀ c0 c2 c3 c4 c5 c6, (l c0 false c2 c3 c4 c5 c6).setIfInBounds 1 true = l c0 true c2 c3 c4 c5 c6)
    (l2 : ∀ c0 c1 c3 c4 c5 c6, (l c0 c1 false c3 c4 c5 c6).setIfInBounds 2 true = l c0 c1 true c3 c4 c5 c6)
    (l3 : ∀ c0 c1 c2 c4 c5 c6, (l c0 c1 c2 false c4 c5 c6).setIfInBounds 3 true = l c0 c1 c2 true c4 c5 c6)
    (l4 : ∀ c0 c1 c2 c3 c5 c6, (l c0 c1 c2 c3 false c5 c6).setIfInBounds 4 true = l c0 c1 c2 c3 true c5 c6)
    (l5 : ∀ c0 c1 c2 c3 c4 c6, (l c0 c1 c2 c3 c4 false c6).setIfInBounds 5 true = l c0 c1 c2 c3 c4 true c6)
    (l6 : ∀ c0 c1 c2 c3 c4 c5, (l c0 c1 c2 c3 c4 c5 false).setIfInBounds 6 true = l c0 c1 c2 c3 c4 c5 true)
    (s0 : ∀ y1 y2 y3 y4 y5 y6 (K : Act → World → Prop), K (tm x0 y1 y2 y3 y4 y5 y6) W → wpOpIn F n P ops Q 0 K (tm undef y1 y2 y3 y4 y5 y6) W)
    (s1 : ∀ y0 y2 y3 y4 y5 y6 (K : Act → World → Prop), K (tm y0 x1 y2 y3 y4 y5 y6) W → wpOpIn F n P ops Q 1 K (tm y0 undef y2 y3 y4 y5 y6) W)
    (s2 : ∀ y0 y1 y3 y4 y5 y6 (K : Act → World → Prop), K (tm y0 y1 x2 y3 y4 y5 y6) W → wpOpIn F n P ops Q 2 K (tm y0 y1 undef y3 y4 y5 y6) W)
    (s3 : ∀ y0 y1 y4 y5 y6 (K : Act → World → Prop), K (tm y0 y1 x2 x3 y4 y5 y6) W → wpOpIn F n P ops Q 3 K (tm y0 y1 x2 undef y4 y5 y6) W)
    (s4 : ∀ y0 y2 y5 y6 (K : Act → World → Prop), K (tm y0 x1 y2 x3 x4 y5 y6) W → wpOpIn F n P ops Q 4 K (tm y0 x1 y2 x3 undef y5 y6) W)
    (s5 : ∀ y0 y1 y2 y3 y6 (K : Act → World → Prop), K (tm y0 y1 y2 y3 x4 x5 y6) W → wpOpIn F n P ops Q 5 K (tm y0 y1 y2 y3 x4 undef y6) W)
    (s6 : ∀ y0 y1 y2 y3 y4 (K : Act → World → Prop), K (tm y0 y1 y2 y3 y4 x5 x6) W → wpOpIn F n P ops Q 6 K (tm y0 y1 y2 y3 y4 x5 undef) W)
    (r0111111 : Region.ready .any ops (l false true true true true true true) = [0])
    (r1111110 : Region.ready .any ops (l true true true true true true false) = [6])
    (r0111110 : Region.ready .any ops (l false true true true true true false) = [0, 6])
    (r1111100 : Region.ready .any ops (l true true true true true false false) = [5])
    (r0111100 : Region.ready .any ops (l false true true true true false false) = [0, 5])
    (r1111000 : Region.ready .any ops (l true true true true false false false) = [4])
    (r0111000 : Region.ready .any ops (l false true true true false false false) = [0, 4])
    (r1011000 : Region.ready .any ops (l true false true true false false false) = [1])
    (r1110000 : Region.ready .any ops (l true true true false false false false) = [3])
    (r0011000 : Region.ready .any ops (l false false true true false false false) = [0, 1])
    (r0110000 : Region.ready .any ops (l false true true false false false false) = [0, 3])
    (r1010000 : Region.ready .any ops (l true false true false false false false) = [1, 3])
    (r1100000 : Region.ready .any ops (l true true false false false false false) = [2])
    (r0010000 : Region.ready .any ops (l false false true false false false false) = [0, 1, 3])
    (r0100000 : Region.ready .any ops (l false true false false false false false) = [0, 2])
    (r1000000 : Region.ready .any ops (l true false false false false false false) = [1, 2])
    (r0000000 : Region.ready .any ops (l false false false false false false false) = [0, 1, 2])
    (f : Nat) (hend : wpAnyIn F n P .any ops Q f (l true true true true true true true) (tm x0 x1 x2 x3 x4 x5 x6) W) : wpAnyIn F n P .any ops Q (f + 7) (l false false false false false false false) (tm undef undef undef undef undef undef undef) W := by
  have q1111111 := hend
  have q0111111 : wpAnyIn F n P .any ops Q (f + 1) (l false true true true true true true) (tm undef x1 x2 x3 x4 x5 x6) W := by
    refine I_all r0111111 (by simp) (fun j hj => ?_)
    obtain rfl : j = 0 := by simpa using hj
    refine s0 _ _ _ _ _ _ _ ?_
    rw [l0]
    exact q1111111
  have q1111110 : wpAnyIn F n P .any ops Q (f + 1) (l true true true true true true false) (tm x0 x1 x2 x3 x4 x5 undef) W := by
    refine I_all r1111110 (by simp) (fun j hj => ?_)
    obtain rfl : j = 6 := by simpa using hj
    refine s6 _ _ _ _ _ _ ?_
    rw [l6]
    exact q1111111
  have q0111110 : wpAnyIn F n P .any ops Q (f + 2) (l false true true true true true false) (tm undef x1 x2 x3 x4 x5 undef) W := by
    refine I_all r0111110 (by simp) (fun j hj => ?_)
    rcases (by simpa using hj : j = 0 ∨ j = 6) with rfl | rfl
    · refine s0 _ _ _ _ _ _ _ ?_
      rw [l0]
      exact q1111110
    · refine s6 _ _ _ _ _ _ ?_
      rw [l6]
      exact q0111111
  have q1111100 : wpAnyIn F n P .any ops Q (f + 2) (l true true true true true false false) (tm x0 x1 x2 x3 x4 undef undef) W := by
    refine I_all r1111100 (by simp) (fun j hj => ?_)
    obtain rfl : j = 5 := by simpa using hj
    refine s5 _ _ _ _ _ _ ?_
    rw [l5]
    exact q1111110
  have q0111100 : wpAnyIn F n P .any ops Q (f + 3) (l false true true true true false false) (tm undef x1 x2 x3 x4 undef undef) W := by
    refine I_all r0111100 (by simp) (fun j hj => ?_)
    rcases (by simpa using hj : j = 0 ∨ j = 5) with rfl | rfl
    · refine s0 _ _ _ _ _ _ _ ?_
      rw [l0]
      exact q1111100
    · refine s5 _ _ _ _ _ _ ?_
      rw [l5]
      exact q0111110
  have q1111000 : wpAnyIn F n P .any ops Q (f + 3) (l true true true true false false false) (tm x0 x1 x2 x3 undef undef undef) W := by
    refine I_all r1111000 (by simp) (fun j hj => ?_)
    obtain rfl : j = 4 := by simpa using hj
    refine s4 _ _ _ _ _ ?_
    rw [l4]
    exact q1111100
  have q0111000 : wpAnyIn F n P .any ops Q (f + 4) (l false true true true false false false) (tm undef x1 x2 x3 undef undef undef) W := by
    refine I_all r0111000 (by simp) (fun j hj => ?_)
    rcases (by simpa using hj : j = 0 ∨ j = 4) with rfl | rfl
    · refine s0 _ _ _ _ _ _ _ ?_
      rw [l0]
      exact q1111000
    · refine s4 _ _ _ _ _ ?_
      rw [l4]
      exact q0111100
  have q1011000 : wpAnyIn F n P .any ops Q (f + 4) (l true false true true false false false) (tm x0 undef x2 x3 undef undef undef) W := by
    refine I_all r1011000 (by simp) (fun j hj => ?_)
    obtain rfl : j = 1 := by simpa using hj
    refine s1 _ _ _ _ _ _ _ ?_
    rw [l1]
    exact q1111000
  have q1110000 : wpAnyIn F n P .any ops Q (f + 4) (l true true true false false false false) (tm x0 x1 x2 undef undef undef undef) W := by
    refine I_all r1110000 (by simp) (fun j hj => ?_)
    obtain rfl : j = 3 := by simpa using hj
    refine s3 _ _ _ _ _ _ ?_
    rw [l3]
    exact q1111000
  have q0011000 : wpAnyIn F n P .any ops Q (f + 5) (l false false true true false false false) (tm undef undef x2 x3 undef undef undef) W := by
    refine I_all r0011000 (by simp) (fun j hj => ?_)
    rcases (by simpa using hj : j = 0 ∨ j = 1) with rfl | rfl
    · refine s0 _ _ _ _ _ _ _ ?_
      rw [l0]
      exact q1011000
    · refine s1 _ _ _ _ _ _ _ ?_
      rw [l1]
      exact q0111000
  have q0110000 : wpAnyIn F n P .any ops Q (f + 5) (l false true true false false false false) (tm undef x1 x2 undef undef undef undef) W := by
    refine I_all r0110000 (by simp) (fun j hj => ?_)
    rcases (by simpa using hj : j = 0 ∨ j = 3) with rfl | rfl
    · refine s0 _ _ _ _ _ _ _ ?_
      rw [l0]
      exact q1110000
    · refine s3 _ _ _ _ _ _ ?_
      rw [l3]
      exact q0111000
  have q1010000 : wpAnyIn F n P .any ops Q (f + 5) (l true false true false false false false) (tm x0 undef x2 undef undef undef undef) W := by
    refine I_all r1010000 (by simp) (fun j hj => ?_)
    rcases (by simpa using hj : j = 1 ∨ j = 3) with rfl | rfl
    · refine s1 _ _ _ _ _ _ _ ?_
      rw [l1]
      exact q1110000
    · refine s3 _ _ _ _ _ _ ?_
      rw [l3]
      exact q1011000
  have q1100000 : wpAnyIn F n P .any ops Q (f + 5) (l true true false false false false false) (tm x0 x1 undef undef undef undef undef) W := by
    refine I_all r1100000 (by simp) (fun j hj => ?_)
    obtain rfl : j = 2 := by simpa using hj
    refine s2 _ _ _ _ _ _ _ ?_
    rw [l2]
    exact q1110000
  have q0010000 : wpAnyIn F n P .any ops Q (f + 6) (l false false true false false false false) (tm undef undef x2 undef undef undef undef) W := by
    refine I_all r0010000 (by simp) (fun j hj => ?_)
    rcases (by simpa using hj : j = 0 ∨ j = 1 ∨ j = 3) with rfl | rfl | rfl
    · refine s0 _ _ _ _ _ _ _ ?_
      rw [l0]
      exact q1010000
    · refine s1 _ _ _ _ _ _ _ ?_
      rw [l1]
      exact q0110000
    · refine s3 _ _ _ _ _ _ ?_
      rw [l3]
      exact q0011000
  have q0100000 : wpAnyIn F n P .any ops Q (f + 6) (l false true false false false false false) (tm undef x1 undef undef undef undef undef) W := by
    refine I_all r0100000 (by simp) (fun j hj => ?_)
    rcases (by simpa using hj : j = 0 ∨ j = 2) with rfl | rfl
    · refine s0 _ _ _ _ _ _ _ ?_
      rw [l0]
      exact q1100000
    · refine s2 _ _ _ _ _ _ _ ?_
      rw [l2]
      exact q0110000
  have q1000000 : wpAnyIn F n P .any ops Q (f + 6) (l true false false false false false false) (tm x0 undef undef undef undef undef undef) W := by
    refine I_all r1000000 (by simp) (fun j hj => ?_)
    rcases (by simpa using hj : j = 1 ∨ j = 2) with rfl | rfl
    · refine s1 _ _ _ _ _ _ _ ?_
      rw [l1]
      exact q1100000
    · refine s2 _ _ _ _ _ _ _ ?_
      rw [l2]
      exact q1010000
  have q0000000 : wpAnyIn F n P .any ops Q (f + 7) (l false false false false false false false) (tm undef undef undef undef undef undef undef) W := by
    refine I_all r0000000 (by simp) (fun j hj => ?_)
    rcases (by simpa using hj : j = 0 ∨ j = 1 ∨ j = 2) with rfl | rfl | rfl
    · refine s0 _ _ _ _ _ _ _ ?_
      rw [l0]
      exact q1000000
    · refine s1 _ _ _ _ _ _ _ ?_
      rw [l1]
      exact q0100000
    · refine s2 _ _ _ _ _ _ _ ?_
      rw [l2]
      exact q0010000
  exact q0000000
end Go.Proofs.YtffokggejbmadaaGreatDoor

/-! A range over a function whose iterator writes into memory of its own between two rounds, and whose body writes one block alone and is never left early. -/
namespace Go.Proofs.YtffokggejbmadaaGreatDoor
open Go Go.RowKit Go.Shelf

theorem veil {p : Prop} (h : p) : Hid p := h
/-- All blocks but one lie as they lay. -/
structure Keep1 (st : Nat) (W W' : World) : Prop where
  os : W'.os = W.os
  tape : W'.tape = W.tape
  output : W'.output = W.output
  size : W.heap.size ≤ W'.heap.size
  block : ∀ k, k < W.heap.size → k ≠ st → W'.heap[k]? = W.heap[k]?

theorem Keep1.refl (st : Nat) (W : World) : Keep1 st W W := ⟨rfl, rfl, rfl, Nat.le_refl _, fun _ _ _ => rfl⟩
theorem Keep1.trans {st : Nat} {A B C : World} (h : Keep1 st A B) (k : Keep1 st B C) : Keep1 st A C :=
  ⟨k.os.trans h.os, k.tape.trans h.tape, k.output.trans h.output, Nat.le_trans h.size k.size, fun i hi hs => (k.block i (Nat.lt_of_lt_of_le hi h.size) hs).trans (h.block i hi hs)⟩
theorem Keep1.of_below {st : Nat} {W W' : World} (h : Below W.heap.size W W') : Keep1 st W W' := ⟨h.os, h.tape, h.output, h.size, fun k hk _ => h.block k hk⟩
theorem Keep1.setRow (st : Nat) (W : World) (cs : Array Value) : Keep1 st W (W.setRow st cs) := ⟨rfl, rfl, rfl, by rw [setRow_size]; exact Nat.le_refl _, fun k _ hk => setRow_other W st k cs hk⟩
theorem Keep1.below {st B : Nat} {W W' : World} (h : Keep1 st W W') (hB : B ≤ st) (hs : B ≤ W.heap.size) : Below B W W' := ⟨h.os, h.tape, h.output, h.size, fun k hk => h.block k (by omega) (by omega)⟩
theorem Keep1.row {st g : Nat} {W W' : World} {t : TypeId} {cs : Array Value} (h : Keep1 st W W') (hr : Row W g t cs) (hg : g ≠ st) : Row W' g t cs := (h.block g hr.lt hg).trans hr
theorem below_putObj {B l : Nat} {W : World} (o : Obj) (hl : B ≤ l) (hB : B ≤ W.heap.size) : Below B W (W.putObj l o) := (Below.refl B W).grown (grownBy_putObj' W l o) hB (fun k e => by cases e; exact hl)

section
variable {F : Fence} {n : Nat} {P : Program}

/-- What such an iterator answers: it calls its round once for each of the list, in order; what it does beside that, it does in memory of its own. -/
def Tells {α : Type} (F : Fence) (n : Nat) (P : Program) (gf : Nat) (lb : Array Value) (encs : α → Array Value) (st : Nat) (S : List α) (w : World) : Prop :=
  ∀ (l : Nat) (J : List α → World → Prop) (W : World), Below w.heap.size w W → (∀ s A B, J s A → Below W.heap.size A B → J s B) →
    (∀ pre x W1, J pre W1 → YieldAt F (n - 1) P l (encs x) W1 fun e W' => e = .returned (.bool true) ∧ J (pre ++ [x]) W' ∧ Keep1 st W1 W') → J [] W →
    CallsIn F n P gf (#[.func (.yield l) #[] #[]] ++ lb) W fun e W' => (∃ v, e = .returned v) ∧ J S W'

theorem rangeFunc_tells {α : Type} {g : Operand} {ps : Array Tmp} {assign body : Code} {Q : Exit → Act → World → Prop} {a : Act} {w : World}
    (hro : F.round = none) (h1 : 1 ≤ n) {gf : Nat} {lb : Array Value} (hg : a.eval g = .func (.func gf) #[] lb) (hFg : F.fn gf) (eg : ∀ args w, (callFunc gf args).run P w = .ok (.enter gf args) w)
    {encs : α → Array Value} (hps : ∀ x, (encs x).size = ps.size) (st : Nat) (hst : st < w.heap.size) (S : List α) (hseq : Tells F (n - 1) P gf lb encs st S w)
    (I : List α → World → Prop) (hI : ∀ s A B, I s A → Below w.heap.size A B → I s B) (h0 : I [] w) (mk : α → Nat → Act) (Rx : α → Nat → World → Prop) (hRx : ∀ x b W W', Rx x b W → W'.heap[b]? = W.heap[b]? → Rx x b W')
    (hassign : ∀ (l : Nat) (x : α) (W : World) (K : Act → World → Prop), (∀ Wa, Below W.heap.size W Wa → W.heap.size < Wa.heap.size → Rx x W.heap.size Wa → K (mk x W.heap.size) Wa) →
      assign.wpIn (F.inRound l) (n - 1 - 1) P (Exit.then K (fun _ _ _ => False)) { tmps := (ps.zip (encs x)).foldl (fun t (p, v) => t.setIfInBounds p v) a.tmps, defers := [] } W)
    (hbody : ∀ (l : Nat) (pre : List α) (x : α) (b : Nat) (W : World), I pre W → Rx x b W → w.heap.size ≤ b → b < W.heap.size →
      body.wpIn (F.inRound l) (n - 1 - 1) P (fun e _ W' => e = .normal ∧ Keep1 st W W' ∧ I (pre ++ [x]) W') (mk x b) W)
    (hdone : ∀ (D : Nat) (W : World), w.heap.size ≤ D → I S W → W.heap[D]? = some (.deferred (some [])) → Q .normal { a with defers := { target := .collected D, args := #[] } :: a.defers } W) :
    (Code.rangeFunc g ps assign body).wpIn F n P Q a w := by
  refine wpIn_rangeFunc (fun fn hfn => ?_)
  rw [hro]
  obtain ⟨r0, hr0⟩ : ∃ r0 : Loop, r0 = { state := .ready, pending := none, fn, tmps := a.tmps, params := ps, assign, body, defers := w.heap.size } := ⟨_, rfl⟩
  obtain ⟨W0, hW0⟩ : ∃ W0, W0 = (w.alloc (.deferred (some []))).alloc (.loop r0) := ⟨_, rfl⟩
  have hsz : W0.heap.size = w.heap.size + 2 := by rw [hW0]; simp
  have hD0 : W0.heap[w.heap.size]? = some (.deferred (some [])) := by rw [hW0]; exact (Below.heap_alloc _ _ _ (by simp)).trans (heap_alloc_new w _)
  have hL0 : W0.heap[w.heap.size + 1]? = some (.loop r0) := by
    have := heap_alloc_new (w.alloc (.deferred (some []))) (.loop r0)
    rw [World.size_alloc] at this
    rw [hW0]; exact this
  have hbel0 : Below w.heap.size w W0 := by rw [hW0]; exact ((Below.refl _ w).alloc (Nat.le_refl _) _).alloc (by simp) _
  refine ⟨w.heap.size + 1, [{ target := .collected w.heap.size, args := #[] }], W0, { target := .fn (.func gf) lb, args := #[.func (.yield (w.heap.size + 1)) #[] #[]] }, W0, gf, #[.func (.yield (w.heap.size + 1)) #[] #[]] ++ lb, W0, ?_, ?_, ?_, ?_, fun _ => h1, ?_⟩
  · rw [hW0, hr0]; exact run_enterLoop_outer _ _ _ _ _
  · simp only [resolve, hg]
    simp [go_sem]
  · intro f' hf'
    simp [Target.leads] at hf'
    subst hf'
    exact hFg
  · simp [invoke, go_sem, eg]
  refine (hseq (w.heap.size + 1) (fun pre W => I pre W ∧ W.heap[w.heap.size]? = some (.deferred (some [])) ∧ W.heap[w.heap.size + 1]? = some (.loop r0)) W0 hbel0 ?_ ?_ ⟨hI _ _ _ h0 hbel0, hD0, hL0⟩).mono ?_
  · rintro s A B ⟨hi, hd, hl⟩ hb
    exact ⟨hI _ _ _ hi (hb.mono (by omega)), (hb.block _ (by omega)).trans hd, (hb.block _ (by omega)).trans hl⟩
  · rintro pre x W ⟨hi, hd, hl⟩
    have hlt : w.heap.size + 1 < W.heap.size := (Array.getElem?_eq_some_iff.1 hl).1
    have hy := run_yield (P := P) (args := encs x) hl (by rw [hr0]; exact hps x)
    rw [hr0] at hy
    refine ⟨fn, _, assign, body, hy, roundIn_of_wpIn hfn (hassign _ x W _ (fun Wa hba hsa hxa => ?_))⟩
    have hla := (hba.block _ hlt).trans hl
    have hda := (hba.block _ (show w.heap.size < W.heap.size by omega)).trans hd
    refine ⟨_, run_beginRound hla (by rw [hr0]), ?_⟩
    have hpb : Below w.heap.size Wa (Wa.putObj (w.heap.size + 1) (.loop { r0 with state := .busy })) := below_putObj _ (by omega) (by omega)
    refine wpIn_mono (hbody _ pre x W.heap.size _ (hI _ _ _ (hI _ _ _ hi (hba.mono (by omega))) hpb) (hRx _ _ _ _ hxa (World.putObj_heap_other (by omega))) (by omega) (by rw [World.putObj_size]; exact hsa)) ?_
    rintro e a3 W3 ⟨rfl, hk3, hi3⟩
    have hl3 : W3.heap[w.heap.size + 1]? = some (.loop { r0 with state := .busy }) := (hk3.block _ (by rw [World.putObj_size]; omega) (by omega)).trans (World.putObj_heap_same (by omega))
    have hd3 : W3.heap[w.heap.size]? = some (.deferred (some [])) := (hk3.block _ (by rw [World.putObj_size]; omega) (by omega)).trans ((World.putObj_heap_other (by omega)).trans hda)
    have he := run_endRound (P := P) none hl3
    have hr : ({ { r0 with state := .busy } with state := if (none : Option Code).isNone then .ready else .done, pending := none } : Loop) = r0 := by rw [hr0]; rfl
    rw [hr] at he
    have hs3 : Wa.heap.size ≤ W3.heap.size := by have := hk3.size; rw [World.putObj_size] at this; exact this
    have hp3 : Below w.heap.size W3 (W3.putObj (w.heap.size + 1) (.loop r0)) := below_putObj _ (by omega) (by omega)
    refine ⟨_, _, he, rfl, ⟨hI _ _ _ hi3 hp3, (World.putObj_heap_other (by omega)).trans hd3, World.putObj_heap_same (by omega)⟩, ?_⟩
    refine ⟨?_, ?_, ?_, ?_, fun k hk hks => ?_⟩
    · exact (hp3.os.trans hk3.os).trans (hpb.os.trans hba.os)
    · exact (hp3.tape.trans hk3.tape).trans (hpb.tape.trans hba.tape)
    · exact (hp3.output.trans hk3.output).trans (hpb.output.trans hba.output)
    · rw [World.putObj_size]; have := hba.size; omega
    · by_cases hkl : k = w.heap.size + 1
      · rw [hkl, World.putObj_heap_same (by omega), hl]
      · rw [World.putObj_heap_other hkl, hk3.block k (by rw [World.putObj_size]; have := hba.size; omega) hks, World.putObj_heap_other hkl, hba.block k hk]
  · rintro e W2 ⟨⟨v, rfl⟩, hi, hd, hl⟩
    have he := run_endLoop (P := P) hl (by rw [hr0]; simp)
    rw [show r0.pending = none by rw [hr0]] at he
    have hlt : w.heap.size + 1 < W2.heap.size := (Array.getElem?_eq_some_iff.1 hl).1
    exact ⟨none, _, he, hdone w.heap.size _ (Nat.le_refl _) (hI _ _ _ hi (below_putObj _ (by omega) (by omega))) ((World.putObj_heap_other (by omega)).trans hd)⟩
end
end Go.Proofs.YtffokggejbmadaaGreatDoor

/-! A region that draws its order, by what holds at every state on the way: no program in sight. -/
namespace Go.Proofs.YtffokggejbmadaaGreatDoor
open Go Go.RowKit

/-- All arrays of n bools. -/
def allB : Nat → List (List Bool)
  | 0 => [[]]
  | n + 1 => (allB n).flatMap fun l => [false :: l, true :: l]
theorem mem_allB : ∀ (l : List Bool), l ∈ allB l.length
  | [] => by simp [allB]
  | b :: l => by
    have := mem_allB l
    simp only [List.length_cons, allB, List.mem_flatMap]
    refine ⟨l, this, ?_⟩
    cases b <;> simp
/-- The i-th is done. -/
def On (l : Array Bool) (i : Nat) : Prop := l.getD i false = true
theorem On.of_set {l : Array Bool} {i j : Nat} (h : On (l.setIfInBounds i true) j) (hij : i ≠ j) : On l j := by
  unfold On at *
  rw [Array.getD_eq_getD_getElem?] at *
  rwa [Array.getElem?_setIfInBounds_ne hij] at h
theorem On.set {l : Array Bool} {i j : Nat} (h : On l j) : On (l.setIfInBounds i true) j := by
  unfold On at *
  rw [Array.getD_eq_getD_getElem?] at *
  rw [Array.getElem?_setIfInBounds]
  split
  · split
    · rfl
    · rename_i h1 h2
      rw [Array.getElem?_eq_none (by omega)] at h
      cases h
  · exact h

theorem On.self {l : Array Bool} {i : Nat} (h : i < l.size) : On (l.setIfInBounds i true) i := by
  unfold On
  rw [Array.getD_eq_getD_getElem?, Array.getElem?_setIfInBounds_self_of_lt h]
  rfl
theorem On.none (N i : Nat) : ¬ On (Array.replicate N false) i := by
  unfold On
  rw [Array.getD_eq_getD_getElem?, Array.getElem?_replicate]
  split <;> simp

section
variable {F : Fence} {n : Nat} {P : Program} {ops : Array Oper} {Q : Exit → Act → World → Prop} {md : Region.Mode}
/-- What is asked of the region's order: whatever comes up, what it waits for is done; where nothing comes up, all is done. -/
def depsB (md : Region.Mode) (ops : Array Oper) (dep : Nat → List Nat) (N : Nat) : Bool :=
  (allB N).all fun l => ((Region.ready md ops l.toArray).all fun i => decide (i < N) && !(l.toArray.getD i false) && (dep i).all fun j => l.toArray.getD j false) && (!(Region.ready md ops l.toArray).isEmpty || l.all id)

theorem count_set (l : Array Bool) (i : Nat) (hi : i < l.size) (h : l.getD i false = false) : (l.setIfInBounds i true).toList.count false + 1 = l.toList.count false := by
  obtain ⟨l⟩ := l
  simp only [List.size_toArray] at hi
  rw [Array.getD_eq_getD_getElem?] at h
  simp only [List.getElem?_toArray, List.getElem?_eq_getElem hi, Option.getD_some] at h
  simp only [List.setIfInBounds_toArray]
  induction l generalizing i with
  | nil => simp at hi
  | cons b l ih =>
    cases i with
    | zero =>
      simp at h
      subst h
      simp
    | succ i =>
      simp at h hi
      have := ih i hi h
      simp only [List.set_cons_succ, List.count_cons]
      omega

theorem anyIn_inv {Inv : Array Bool → Act → World → Prop} (dep : Nat → List Nat) (N : Nat) (hd : depsB md ops dep N = true)
    (hstep : ∀ l a w i, l.size = N → Inv l a w → i < N → ¬ On l i → (∀ j ∈ dep i, On l j) → wpOpIn F n P ops Q i (Inv (l.setIfInBounds i true)) a w)
    (hdone : ∀ l a w, Inv l a w → (∀ i, i < N → On l i) → Q .normal a w) :
    ∀ (fuel : Nat) (l : Array Bool) (a : Act) (w : World), l.size = N → l.toList.count false ≤ fuel → Inv l a w → wpAnyIn F n P md ops Q fuel l a w := by
  have key : ∀ l : Array Bool, l.size = N → (∀ i ∈ Region.ready md ops l, i < N ∧ l.getD i false = false ∧ ∀ j ∈ dep i, On l j) ∧ (Region.ready md ops l = [] → ∀ i, i < N → On l i) := by
    rintro ⟨l⟩ hl
    simp only [List.size_toArray] at hl
    have h := List.all_eq_true.1 hd l (hl ▸ mem_allB l)
    simp only [Bool.and_eq_true, Bool.or_eq_true] at h
    refine ⟨fun i hi => ?_, fun h0 i hi => ?_⟩
    · have h1 := List.all_eq_true.1 h.1 i hi
      simp only [Bool.and_eq_true, decide_eq_true_eq, Bool.not_eq_true'] at h1
      exact ⟨h1.1.1, h1.1.2, fun j hj => List.all_eq_true.1 h1.2 j hj⟩
    · rcases h.2 with h2 | h2
      · rw [h0] at h2
        simp at h2
      · have h3 := List.all_eq_true.1 h2 (l[i]'(by omega)) (List.getElem_mem _)
        unfold On
        rw [Array.getD_eq_getD_getElem?]
        simp only [List.getElem?_toArray, List.getElem?_eq_getElem (show i < l.length by omega), Option.getD_some]
        simpa using h3
  intro fuel
  induction fuel with
  | zero =>
    intro l a w hl hc hI
    have h0 : Region.ready md ops l = [] := by
      cases hr : Region.ready md ops l with
      | nil => rfl
      | cons i r =>
        exfalso
        have h1 := (key l hl).1 i (by rw [hr]; simp)
        have h2 := count_set l i (by omega) h1.2.1
        omega
    exact ⟨h0, hdone l a w hI ((key l hl).2 h0)⟩
  | succ fuel ih =>
    intro l a w hl hc hI
    refine ⟨fun h0 => hdone l a w hI ((key l hl).2 h0), fun i hi => ?_⟩
    have h1 := (key l hl).1 i hi
    have h2 := count_set l i (by omega) h1.2.1
    exact wpOpIn_mono (fun a' w' hI' => ih _ a' w' (by rw [Array.size_setIfInBounds]; exact hl) (by omega) hI') (hstep l a w i hl hI h1.1 (by unfold On; rw [h1.2.1]; simp) h1.2.2)
end
end Go.Proofs.YtffokggejbmadaaGreatDoor

/-! Numbers of five words of 26 bits: no program in sight. -/
namespace Go.Proofs.YtffokggejbmadaaGreatDoor
open Go

/-- The number of five words. -/
def V5 (xs : List Nat) : Nat := gn xs 0 + 67108864 * gn xs 1 + 4503599627370496 * gn xs 2 + 302231454903657293676544 * gn xs 3 + 20282409603651670423947251286016 * gn xs 4
/-- 2^130 - 5. -/
def PP : Nat := 1361129467683753853853498429727072845819
/-- Five words of 26 bits each. -/
structure Sm (xs : List Nat) : Prop where
  len : xs.length = 5
  lt : ∀ i, gn xs i < 67108864
theorem five {xs : List Nat} (h : xs.length = 5) : ∃ a b c d e, xs = [a, b, c, d, e] := by
  match xs, h with
  | [a, b, c, d, e], _ => exact ⟨a, b, c, d, e, rfl⟩
theorem gn_set (xs : List Nat) (i j x : Nat) : gn (xs.set i x) j = if i = j ∧ j < xs.length then x else gn xs j := by
  unfold gn
  rw [List.getElem?_set]
  by_cases h : i = j
  · subst h
    by_cases h2 : i < xs.length
    · simp [h2]
    · simp [h2]
  · simp [h]
theorem gn_set_same {xs : List Nat} {i : Nat} (h : i < xs.length) (x : Nat) : gn (xs.set i x) i = x := by rw [gn_set, if_pos ⟨rfl, h⟩]
theorem gn_set_ne {xs : List Nat} {i j : Nat} (h : i ≠ j) (x : Nat) : gn (xs.set i x) j = gn xs j := by rw [gn_set, if_neg (fun e => h e.1)]
theorem gn_out {xs : List Nat} {i : Nat} (h : xs.length ≤ i) : gn xs i = 0 := by
  unfold gn
  rw [List.getElem?_eq_none h]
  rfl

/-- What is above a word's 26 bits goes to the next one. -/
theorem carry_step (xs : List Nat) (h : xs.length = 5) (k : Nat) (hk : k < 4) : V5 ((xs.set k (gn xs k % 67108864)).set (k + 1) (gn xs (k + 1) + gn xs k / 67108864)) = V5 xs := by
  obtain ⟨a, b, c, d, e, rfl⟩ := five h
  match k, hk with
  | 0, _ => simp [V5, gn]; omega
  | 1, _ => simp [V5, gn]; omega
  | 2, _ => simp [V5, gn]; omega
  | 3, _ => simp [V5, gn]; omega
theorem carry_last (xs : List Nat) (h : xs.length = 5) : V5 ((xs.set 4 (gn xs 4 % 67108864)).set 0 (gn xs 0 + 5 * (gn xs 4 / 67108864))) + gn xs 4 / 67108864 * PP = V5 xs := by
  obtain ⟨a, b, c, d, e, rfl⟩ := five h
  simp [V5, gn, PP]
  omega
theorem V5_le_last (xs : List Nat) : 20282409603651670423947251286016 * gn xs 4 ≤ V5 xs := by unfold V5; omega
theorem V5_lt {xs : List Nat} (h : Sm xs) : V5 xs < 1361129467683753853853498429727072845824 := by
  have h0 := h.lt 0
  have h1 := h.lt 1
  have h2 := h.lt 2
  have h3 := h.lt 3
  have h4 := h.lt 4
  unfold V5
  omega
theorem and26 (x : Int) (h0 : 0 ≤ x) (h1 : x < 18446744073709551616) : bits .and .u64 x 67108863 = x % 67108864 := by
  rw [u64_and _ _ h0 h1 (by omega) (by omega)]
  have e : (67108863 : Int).toNat = 2 ^ 26 - 1 := rfl
  rw [e, Nat.and_two_pow_sub_one_eq_mod]
  omega
theorem and24 (x : Int) (h0 : 0 ≤ x) (h1 : x < 18446744073709551616) : bits .and .u64 x 16777215 = x % 16777216 := by
  rw [u64_and _ _ h0 h1 (by omega) (by omega)]
  have e : (16777215 : Int).toNat = 2 ^ 24 - 1 := rfl
  rw [e, Nat.and_two_pow_sub_one_eq_mod]
  omega

/-- The words that a block holds. -/
def wordsAt (w : World) (g : Nat) : List Nat := match w.heap[g]? with
  | some (.cells cs _ _) => cs.toList.map fun v => (match v with | .int _ z => z.toNat | _ => 0)
  | _ => []
theorem wordsAt_row {w : World} {g : Nat} {t : TypeId} {xs : List Nat} (h : Row w g t (ns xs)) : wordsAt w g = xs := by
  unfold wordsAt
  rw [show w.heap[g]? = _ from h]
  simp only [ns, List.map_map]
  clear h
  induction xs with
  | nil => rfl
  | cons x r ih => simpa using ih
/-- What is carried: as much by 2^130 - 5, and as much itself where it is below 2^130. -/
structure Cy (v : Nat) (ys : List Nat) : Prop where
  mod : V5 ys % PP = v % PP
  eq : v < 1361129467683753853853498429727072845824 → V5 ys = v
theorem Cy.wrap {v : Nat} {ys zs : List Nat} (h : Cy v ys) {o : Nat} (e : V5 zs + o * PP = V5 ys) (hv : 1361129467683753853853498429727072845824 ≤ V5 ys) : Cy v zs := by
  refine ⟨?_, fun hl => ?_⟩
  · rw [← h.mod, ← e, Nat.add_mul_mod_self_right]
  · have := h.eq hl
    omega
end Go.Proofs.YtffokggejbmadaaGreatDoor

/-! What poly.carried answers. -/
namespace Go.Proofs.YtffokggejbmadaaGreatDoor
open Go Go.RowKit

set_option maxRecDepth 20000 in
set_option maxHeartbeats 1000000 in
theorem carried_any (xs : List Nat) (hl : xs.length = 5) (hx : ∀ i, gn xs i < 4611686018427387904) (w : World) :
    Calls Tryz.prog 123 #[.agg (ns xs)] w fun e w' => ∃ ys, e = .returned (.agg (ns ys)) ∧ Sm ys ∧ Cy (V5 xs) ys ∧ Below w.heap.size w w' := by
  obtain ⟨V, hV⟩ : ∃ V, V = V5 xs := ⟨_, rfl⟩
  have HCY : Hid (Cy V xs) := show Cy V xs from ⟨by rw [hV], fun _ => hV.symm⟩
  have HL := veil hl
  have HX := veil hx
  have R0 : Row ((w.alloc (.cells (ns xs) 163)).alloc (.cells (ns (List.replicate 5 0)) 163)) w.heap.size 163 (ns xs) := (Row.new _ _ _).alloc _
  rw [← hV]
  clear hl hx hV
  go_enter Tryz.func123, Tryz.ntmps123
  go_wp2
  go_step3
  go_wp2
  go_step3
  go_wp2
  go_loopw [5] (fun _ wr => ∃ ys : List Nat, Hid (ys.length = 5) ∧ Hid (∀ i, gn ys i < 4611686018427387904) ∧ Hid (Cy V ys) ∧ Row wr (w.heap.size + 1) 163 (ns (List.replicate 5 0)) ∧ Row wr w.heap.size 163 (ns ys) ∧ Below w.heap.size w wr)
    (fun _ wr => V5 (wordsAt wr w.heap.size))
  case atStart => exact ⟨xs, HL, HX, HCY, Row.new1 _ _ _ (ns (List.replicate 5 0)), R0, ((Below.refl _ w).alloc (Nat.le_refl _) _).alloc (by simp) _⟩
  case round =>
    clear R0 HL HX HCY
    obtain ⟨ys, HL, HX0, HC, r1, r0, hbel⟩ := hrel
    have HW0 : Hid (V5 (wordsAt wr w.heap.size) = V5 ys) := show _ = _ by rw [wordsAt_row r0]
    have HX : Hid (∀ i, gn ys i < 4611686018427387904) := HX0
    go_wp2
    go_loopw [5] (fun iv wr => ∃ (k : Nat) (zs : List Nat), k ≤ 5 ∧ iv = .int .i64 k ∧ Hid (zs.length = 5) ∧ Hid (∀ i, i < k → gn zs i < 67108864) ∧ Hid (gn zs k < 9223372036854775808) ∧ Hid (∀ i, k < i → gn zs i < 4611686018427387904) ∧ Hid (V5 zs = V5 ys) ∧ Row wr (w.heap.size + 1) 163 (ns (List.replicate 5 0)) ∧ Row wr w.heap.size 163 (ns zs) ∧ Below w.heap.size w wr)
      (fun iv _ => 5 - (intOf iv).toNat)
    case atStart => exact ⟨0, ys, by omega, rfl, HL, fun i h => by omega, Nat.lt_trans (HX.out 0) (by omega), fun i _ => HX.out i, rfl, r1, r0, hbel⟩
    case round =>
      clear r0 r1 hbel HL HX
      obtain ⟨k, zs, hk, rfl, HL, HA, HK, HB, HV, r1, r0, hbel⟩ := hrel
      by_cases h5 : k < 5
      · have cx := r0.cellN (j := k) (by rw [HL.out]; exact h5)
        have fx := r0.frozen k
        obtain ⟨x, hxe⟩ : ∃ x, x = gn zs k := ⟨_, rfl⟩
        have hx63 : x < 9223372036854775808 := by rw [hxe]; exact HK.out
        rw [← hxe] at cx
        have hm26 : bits .and .u64 (x : Int) 67108863 = (x : Int) % 67108864 := and26 _ (by omega) (by omega)
        by_cases h4 : k < 4
        · have cy := r0.cellN (j := k + 1) (by rw [HL.out]; omega)
          have fy := r0.frozen (k + 1)
          obtain ⟨y, hye⟩ : ∃ y, y = gn zs (k + 1) := ⟨_, rfl⟩
          have hy62 : y < 4611686018427387904 := by rw [hye]; exact HB.out _ (by omega)
          rw [← hye] at cy
          have HXE := veil hxe
          have HYE := veil hye
          clear hxe hye
          have e1 : (x : Int) % 67108864 = ((x % 67108864 : Nat) : Int) := by omega
          have e2 : (y : Int) + (x : Int) / 67108864 = ((y + x / 67108864 : Nat) : Int) := by omega
          have E1 := veil e1
          have E2 := veil e2
          clear e1 e2
          go_wp2
          go_roundw
          case rel =>
            rw [E1.out, E2.out]
            have q0 := (r0.set k (.int .u64 ((x % 67108864 : Nat) : Int))).set (k + 1) (.int .u64 ((y + x / 67108864 : Nat) : Int))
            rw [ns_set, ns_set] at q0
            refine ⟨k + 1, _, by omega, by go_num, ?_, ?_, ?_, ?_, ?_, (r1.other (by show w.heap.size + 1 ≠ w.heap.size; omega) _).other (by show w.heap.size + 1 ≠ w.heap.size; omega) _, q0, (hbel.setCell (p := ⟨w.heap.size, k, none⟩) (Nat.le_refl _) _).setCell (p := ⟨w.heap.size, k + 1, none⟩) (Nat.le_refl _) _⟩
            · show List.length _ = 5
              rw [List.length_set, List.length_set]; exact HL.out
            · intro i hi
              rw [gn_set_ne (by omega)]
              by_cases hik : i = k
              · subst hik
                rw [gn_set_same (by rw [HL.out]; omega)]; omega
              · rw [gn_set_ne (by omega)]; exact HA.out i (by omega)
            · show gn _ _ < _
              rw [gn_set_same (by rw [List.length_set, HL.out]; omega)]; omega
            · intro i hi
              rw [gn_set_ne (by omega), gn_set_ne (by omega)]; exact HB.out i (by omega)
            · show V5 _ = V5 _
              rw [HXE.out, HYE.out, carry_step zs HL.out k h4]; exact HV.out
          case measure => simp [intOf]; omega
        · obtain rfl : k = 4 := by omega
          have c0 := r0.cellN (j := 0) (by rw [HL.out]; omega)
          have f0 := r0.frozen 0
          obtain ⟨y, hye⟩ : ∃ y, y = gn zs 0 := ⟨_, rfl⟩
          have hy26 : y < 67108864 := by rw [hye]; exact HA.out 0 (by omega)
          rw [← hye] at c0
          have HXE := veil hxe
          have HYE := veil hye
          have e1 : (x : Int) % 67108864 = ((x % 67108864 : Nat) : Int) := by omega
          have e2 : (y : Int) + 5 * ((x : Int) / 67108864) = ((y + 5 * (x / 67108864) : Nat) : Int) := by omega
          have E1 := veil e1
          have E2 := veil e2
          clear e1 e2 hxe hye
          by_cases hov : 67108864 ≤ x
          · have hd : decide (0 < (x : Int) / 67108864) = true := by simp; omega
            go_wp2
            go_roundw
            case rel =>
              rw [E1.out, E2.out]
              have q0 := (r0.set 4 (.int .u64 ((x % 67108864 : Nat) : Int))).set 0 (.int .u64 ((y + 5 * (x / 67108864) : Nat) : Int))
              rw [ns_set, ns_set] at q0
              refine ⟨_, ?_, ?_, ?_, (r1.other (by show w.heap.size + 1 ≠ w.heap.size; omega) _).other (by show w.heap.size + 1 ≠ w.heap.size; omega) _, q0, (hbel.setCell (p := ⟨w.heap.size, 4, none⟩) (Nat.le_refl _) _).setCell (p := ⟨w.heap.size, 0, none⟩) (Nat.le_refl _) _⟩
              · show List.length _ = 5
                rw [List.length_set, List.length_set]; exact HL.out
              · intro i
                by_cases hi0 : i = 0
                · subst hi0
                  rw [gn_set_same (by rw [List.length_set, HL.out]; omega)]; omega
                · rw [gn_set_ne (by omega)]
                  by_cases hi4 : i = 4
                  · subst hi4
                    rw [gn_set_same (by rw [HL.out]; omega)]; omega
                  · rw [gn_set_ne (by omega)]
                    by_cases hi5 : i < 5
                    · exact Nat.lt_trans (HA.out i (by omega)) (by omega)
                    · rw [gn_out (by rw [HL.out]; omega)]; omega
              · have hcy : Cy V zs := ⟨by rw [HV.out]; exact HC.out.mod, by rw [HV.out]; exact HC.out.eq⟩
                refine hcy.wrap (o := x / 67108864) ?_ ?_
                · rw [HXE.out, HYE.out]; exact carry_last zs HL.out
                · have := V5_le_last zs
                  rw [← HXE.out] at this
                  omega
            case measure =>
              rw [E1.out, E2.out]
              have q0 := (r0.set 4 (.int .u64 ((x % 67108864 : Nat) : Int))).set 0 (.int .u64 ((y + 5 * (x / 67108864) : Nat) : Int))
              rw [ns_set, ns_set] at q0
              rw [wordsAt_row q0, HW0.out, ← HV.out]
              have := carry_last zs HL.out
              rw [← HXE.out, ← HYE.out] at this
              have h1 : 1 * PP ≤ x / 67108864 * PP := Nat.mul_le_mul_right _ (by omega)
              have h2 : 0 < PP := by decide
              omega
          · have hd : decide (0 < (x : Int) / 67108864) = false := by simp; omega
            have HE : Hid (x % 67108864 = x) := show _ = _ from Nat.mod_eq_of_lt (by omega)
            go_wp2
            go_roundw
            case rel =>
              rw [E1.out, HE.out]
              have q0 := r0.set 4 (.int .u64 (x : Int))
              rw [ns_set] at q0
              refine ⟨5, _, by omega, by go_num, ?_, ?_, ?_, ?_, ?_, (r1.other (by show w.heap.size + 1 ≠ w.heap.size; omega) _), q0, (hbel.setCell (p := ⟨w.heap.size, 4, none⟩) (Nat.le_refl _) _)⟩
              · show List.length _ = 5
                rw [List.length_set]; exact HL.out
              · intro i hi
                by_cases hi4 : i = 4
                · subst hi4
                  rw [gn_set_same (by rw [HL.out]; omega)]; omega
                · rw [gn_set_ne (by omega)]; exact HA.out i (by omega)
              · show gn _ _ < _
                rw [gn_out (by rw [List.length_set, HL.out]; omega)]; omega
              · intro i hi
                rw [gn_out (by rw [List.length_set, HL.out]; omega)]; omega
              · show V5 _ = V5 _
                rw [← HV.out, HXE.out]
                obtain ⟨a, b, c, d, e, rfl⟩ := five HL.out
                simp [gn]
            case measure => simp [intOf]
      · obtain rfl : k = 5 := by omega
        have HS : Hid (Sm zs) := show Sm zs from ⟨HL.out, fun i => by
          by_cases hi : i < 5
          · exact HA.out i hi
          · rw [gn_out (by rw [HL.out]; omega)]; omega⟩
        have HCZ : Hid (Cy V zs) := show Cy V zs from ⟨by rw [HV.out]; exact HC.out.mod, by rw [HV.out]; exact HC.out.eq⟩
        go_wp2_with (first
          | (with_reducible (show wpList _ _ _ (⟨_, Op.load 163 _, _, _, _, _⟩ :: _) _ _)
             refine load_row rfl 163 _ rfl w.heap.size rfl _ _ r0 5 75 Tryz.underlying163 (by kernel_rfl) (by rw [ns_size, HL.out]) ?_)
          | (with_reducible (show wpList _ _ _ (⟨_, Op.store 163 _ _, _, _, _, _⟩ :: _) _ _)
             refine store_row rfl 163 _ _ rfl (w.heap.size + 1) (ns zs) rfl rfl _ _ r1 5 (by kernel_rfl) (by rw [ns_size, List.length_replicate]) (by rw [ns_size, HL.out]) (ns_one _) ?_))
        rw [Exit.noGoto_ret]
        refine bodyPost_ret (result_row rfl _ _ (w.heap.size + 1) _ _ (r1.put _) 5 75 rfl Tryz.underlying163 (by kernel_rfl) (by rw [ns_size, HL.out])) rfl ⟨zs, rfl, HS.out, HCZ.out, bSetRow hbel (by omega) _⟩
end Go.Proofs.YtffokggejbmadaaGreatDoor

/-! What poly.sum and poly.below128 answer. -/
namespace Go.Proofs.YtffokggejbmadaaGreatDoor
open Go Go.RowKit

theorem V5_sum (a b zs : List Nat) (h : ∀ i, i < 5 → gn zs i = gn a i + gn b i) : V5 zs = V5 a + V5 b := by
  unfold V5
  rw [h 0 (by omega), h 1 (by omega), h 2 (by omega), h 3 (by omega), h 4 (by omega)]
  omega

set_option maxRecDepth 20000 in
set_option maxHeartbeats 1000000 in
theorem sum_any (a b : List Nat) (ha : Sm a) (hb : Sm b) (w : World) :
    Calls Tryz.prog 107 #[.agg (ns a), .agg (ns b)] w fun e w' => ∃ ys, e = .returned (.agg (ns ys)) ∧ Sm ys ∧ Cy (V5 a + V5 b) ys ∧ Below w.heap.size w w' := by
  have HA := veil ha
  have HB := veil hb
  have R0 : Row (((w.alloc (.cells (ns a) 163)).alloc (.cells (ns b) 163)).alloc (.cells (ns (List.replicate 5 0)) 163)) w.heap.size 163 (ns a) := ((Row.new _ _ _).alloc _).alloc _
  have R1 : Row (((w.alloc (.cells (ns a) 163)).alloc (.cells (ns b) 163)).alloc (.cells (ns (List.replicate 5 0)) 163)) (w.heap.size + 1) 163 (ns b) := (Row.new1 _ _ _ _).alloc _
  clear ha hb
  go_enter Tryz.func107, Tryz.ntmps107
  go_wp2
  go_loopw [6] (fun iv wr => ∃ (k : Nat) (zs : List Nat), k ≤ 5 ∧ iv = .int .i64 k ∧ Hid (zs.length = 5) ∧ Hid (∀ i, i < k → gn zs i = gn a i + gn b i) ∧ Hid (∀ i, k ≤ i → gn zs i = gn a i) ∧ Row wr w.heap.size 163 (ns zs) ∧ Row wr (w.heap.size + 1) 163 (ns b) ∧ Row wr (w.heap.size + 1 + 1) 163 (ns (List.replicate 5 0)) ∧ Below w.heap.size w wr)
    (fun iv _ => 5 - (intOf iv).toNat)
  case atStart => exact ⟨0, a, by omega, rfl, HA.out.len, fun i h => by omega, fun i _ => rfl, R0, R1, Row.new2 _ _ _ _ (ns (List.replicate 5 0)), (((Below.refl _ w).alloc (Nat.le_refl _) _).alloc (by simp) _).alloc (by simp; omega) _⟩
  case round =>
    clear R0 R1
    obtain ⟨k, zs, hk, rfl, HL, HD, HU, r0, r1, r2, hbel⟩ := hrel
    by_cases h5 : k < 5
    · have cx := r0.cellN (j := k) (by rw [HL.out]; exact h5)
      have fx := r0.frozen k
      have cy := r1.cellN (j := k) (by rw [HB.out.len]; exact h5)
      rw [HU.out k (Nat.le_refl _)] at cx
      obtain ⟨x, hxe⟩ : ∃ x, x = gn a k := ⟨_, rfl⟩
      obtain ⟨y, hye⟩ : ∃ y, y = gn b k := ⟨_, rfl⟩
      have hx26 : x < 67108864 := by rw [hxe]; exact HA.out.lt _
      have hy26 : y < 67108864 := by rw [hye]; exact HB.out.lt _
      rw [← hxe] at cx
      rw [← hye] at cy
      have HXE := veil hxe
      have HYE := veil hye
      have E1 := veil (show (x : Int) + (y : Int) = ((x + y : Nat) : Int) by omega)
      clear hxe hye
      go_wp2
      go_region
      all_goals go_wp2
      all_goals
        go_roundw
        case rel =>
          rw [E1.out]
          have q0 := r0.set k (.int .u64 ((x + y : Nat) : Int))
          rw [ns_set] at q0
          refine ⟨k + 1, _, by omega, by go_num, ?_, ?_, ?_, q0, r1.other (by show w.heap.size + 1 ≠ w.heap.size; omega) _, r2.other (by show w.heap.size + 1 + 1 ≠ w.heap.size; omega) _, (below_drewN hbel _).setCell (p := ⟨w.heap.size, k, none⟩) (Nat.le_refl _) _⟩
          · show List.length _ = 5
            rw [List.length_set]; exact HL.out
          · intro i hi
            by_cases hik : i = k
            · subst hik
              rw [gn_set_same (by rw [HL.out]; omega), HXE.out, HYE.out]
            · rw [gn_set_ne (by omega)]; exact HD.out i (by omega)
          · intro i hi
            rw [gn_set_ne (by omega)]; exact HU.out i (by omega)
        case measure => simp [intOf]; omega
    · obtain rfl : k = 5 := by omega
      have HV : Hid (V5 zs = V5 a + V5 b) := show _ = _ from V5_sum a b zs HD.out
      have HX : Hid (∀ i, gn zs i < 4611686018427387904) := show ∀ i, gn zs i < 4611686018427387904 from fun i => by
        by_cases hi : i < 5
        · rw [HD.out i hi]
          have h1 := HA.out.lt i
          have h2 := HB.out.lt i
          omega
        · rw [gn_out (by rw [HL.out]; omega)]; omega
      go_wp2_with (with_reducible (show wpList _ _ _ (⟨_, Op.load 163 _, _, _, _, _⟩ :: _) _ _)
                   refine load_row rfl 163 _ rfl w.heap.size rfl _ _ r0 5 75 Tryz.underlying163 (by kernel_rfl) (by rw [ns_size, HL.out]) ?_)
      refine (carried_any zs HL.out HX.out wr).mono ?_
      rintro e1 w1 ⟨ys, rfl, hsm, hcy, hb1⟩
      have HS := veil hsm
      have HC := veil hcy
      have hs1 := hbel.size
      have q2 := r2.below hb1 r2.lt
      have bel2 : Below w.heap.size w w1 := hbel.trans (hb1.mono hs1)
      clear hsm hcy
      go_wp2_with (with_reducible (show wpList _ _ _ (⟨_, Op.store 163 _ _, _, _, _, _⟩ :: _) _ _)
                   refine store_row rfl 163 _ _ rfl (w.heap.size + 1 + 1) (ns ys) rfl rfl _ _ q2 5 (by kernel_rfl) (by rw [ns_size, List.length_replicate]) (by rw [ns_size, HS.out.len]) (ns_one _) ?_)
      refine bodyPost_ret (result_row rfl _ _ (w.heap.size + 1 + 1) _ _ (q2.put _) 5 75 rfl Tryz.underlying163 (by kernel_rfl) (by rw [ns_size, HS.out.len])) rfl ⟨ys, rfl, HS.out, by rw [← HV.out]; exact HC.out, bSetRow bel2 (by omega) _⟩

set_option maxRecDepth 20000 in
set_option maxHeartbeats 1000000 in
theorem below128_any (a : List Nat) (ha : Sm a) (w : World) :
    Calls Tryz.prog 109 #[.agg (ns a)] w fun e w' => ∃ ys, e = .returned (.agg (ns ys)) ∧ Sm ys ∧ V5 ys = V5 a % 340282366920938463463374607431768211456 ∧ Below w.heap.size w w' := by
  have HA := veil ha
  have r0 : Row ((w.alloc (.cells (ns a) 163)).alloc (.cells (ns (List.replicate 5 0)) 163)) w.heap.size 163 (ns a) := (Row.new _ _ _).alloc _
  have r1 : Row ((w.alloc (.cells (ns a) 163)).alloc (.cells (ns (List.replicate 5 0)) 163)) (w.heap.size + 1) 163 (ns (List.replicate 5 0)) := Row.new1 _ _ _ _
  have hbel : Below w.heap.size w ((w.alloc (.cells (ns a) 163)).alloc (.cells (ns (List.replicate 5 0)) 163)) := ((Below.refl _ w).alloc (Nat.le_refl _) _).alloc (by simp) _
  have cx := r0.cellN (j := 4) (by rw [ha.len]; omega)
  have fx := r0.frozen 4
  obtain ⟨x, hxe⟩ : ∃ x, x = gn a 4 := ⟨_, rfl⟩
  have hx26 : x < 67108864 := by rw [hxe]; exact ha.lt _
  rw [← hxe] at cx
  have hm24 : bits .and .u64 (x : Int) 16777215 = (x : Int) % 16777216 := and24 _ (by omega) (by omega)
  have E1 := veil (show (x : Int) % 16777216 = ((x % 16777216 : Nat) : Int) by omega)
  have q0 := r0.set 4 (.int .u64 ((x % 16777216 : Nat) : Int))
  rw [ns_set] at q0
  have HS : Hid (Sm (a.set 4 (x % 16777216))) := show Sm _ from ⟨by rw [List.length_set]; exact ha.len, fun i => by
    rw [gn_set]
    split
    · omega
    · exact ha.lt i⟩
  have HV : Hid (V5 (a.set 4 (x % 16777216)) = V5 a % 340282366920938463463374607431768211456) := show _ = _ by
    have h0 := ha.lt 0
    have h1 := ha.lt 1
    have h2 := ha.lt 2
    have h3 := ha.lt 3
    have h4 := ha.lt 4
    rw [hxe]
    obtain ⟨a0, b0, c0, d0, e0, rfl⟩ := five ha.len
    simp [V5, gn] at h0 h1 h2 h3 h4 ⊢
    omega
  have c4 := ns_get a 4 (by rw [ha.len]; omega)
  rw [← hxe] at c4
  have hz : ((ns a).setIfInBounds 4 (.int .u64 ((x : Int) % 16777216))).size = 5 := by rw [Array.size_setIfInBounds, ns_size, ha.len]
  have hone : Hid (((ns a).setIfInBounds 4 (.int .u64 ((x : Int) % 16777216))).all (·.oneCell') = true) := show _ = _ by rw [E1.out, ns_set]; exact ns_one _
  have HE : Hid ((ns a).setIfInBounds 4 (.int .u64 ((x : Int) % 16777216)) = ns (a.set 4 (x % 16777216))) := show _ = _ by rw [E1.out, ns_set]
  clear ha hxe cx q0 r0 r1 fx hbel
  go_enter Tryz.func109, Tryz.ntmps109
  go_wp2_with (first
    | (with_reducible (show wpList _ _ _ (⟨_, Op.load 163 _, _, _, _, _⟩ :: _) _ _)
       refine load_row rfl 163 _ rfl w.heap.size rfl _ _ ((Row.new _ _ _).alloc _) 5 75 Tryz.underlying163 (by kernel_rfl) hz ?_)
    | (with_reducible (show wpList _ _ _ (⟨_, Op.store 163 _ _, _, _, _, _⟩ :: _) _ _)
       refine store_row rfl 163 _ _ rfl (w.heap.size + 1) _ rfl rfl _ _ (Row.new1 _ _ _ _) 5 (by kernel_rfl) rfl hz hone.out ?_))
  refine bodyPost_ret (result_row rfl _ _ (w.heap.size + 1) _ _ ((Row.new1 _ _ _ _).put _) 5 75 rfl Tryz.underlying163 (by kernel_rfl) hz) rfl ⟨_, by rw [HE.out], HS.out, HV.out, bSetRow (((Below.refl _ w).alloc (Nat.le_refl _) _).alloc (by simp) _) (by omega) _⟩
end Go.Proofs.YtffokggejbmadaaGreatDoor
