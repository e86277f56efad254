/-
  Out of ChaSl, FrVar, RgMem, ChaSame, FrMem, FrLis, RgSet, FrTools, FrPutA, FrNums.
-/
import Derived.Test.YtaighdppemnglaaGreatDoorGf3
import Derived.Test.YtaighdppemnglaaGreatDoorGf1
import Derived.Lib.AppendZeros
import Derived.WalkKit
import Derived.WalkSpells
import Derived.WalkLawsBesides
import Derived.Test.YtaighdppemnglaaGreatDoorGf4
import Derived.Test.YtaighdppemnglaaGreatDoorRows
import Derived.BigQuiet
import Derived.BigRegion
import Derived.Test.YtaighdppemnglaaGreatDoorGf2
import Derived.Deep.MidRow

/-! Slices of bytes, as the walks ask them. Written by mkcha.py. -/
namespace Go.Proofs.YtaighdppemnglaaGreatDoor
open Go Go.RowKit

/-- A slice of bytes, and what lies in it. -/
structure SL where
  a : Option Addr
  len : Nat
  cap : Nat
  g : Nat
  off : Nat
  b : List By
def SL.v (s : SL) : Value := .slice s.a s.len s.cap
structure SL.Ok (w : World) (s : SL) : Prop where
  hb : s.b.length = s.len
  hcap : s.len ≤ s.cap
  nil : s.a = none → s.len = 0 ∧ s.cap = 0
  at_ : 0 < s.len → s.a = some ⟨s.g, s.off, none⟩
  lt : 0 < s.len → s.g < w.heap.size
  cell : ∀ j : Nat, j < s.len → w.cell? ⟨s.g, s.off + j, none⟩ = some (.int .u8 (v8 (gb s.b j)))
theorem SL.Ok.same {w w' : World} {s : SL} (h : s.Ok w) (hs : 0 < s.len → w'.heap[s.g]? = w.heap[s.g]?) (hz : w.heap.size ≤ w'.heap.size) : s.Ok w' :=
  ⟨h.hb, h.hcap, h.nil, h.at_, fun p => Nat.lt_of_lt_of_le (h.lt p) hz, fun j hj => (World.cell?_of_block (a := ⟨s.g, s.off + j, none⟩) (hs (by omega))).trans (h.cell j hj)⟩
theorem SL.Ok.below {w w' : World} {s : SL} (h : s.Ok w) (hb : Below w.heap.size w w') : s.Ok w' := h.same (fun p => hb.block _ (h.lt p)) hb.size
theorem SL.Ok.below' {B : Nat} {w w' : World} {s : SL} (h : s.Ok w) (hb : Below B w w') (hB : 0 < s.len → s.g < B) : s.Ok w' := h.same (fun p => hb.block _ (hB p)) hb.size
theorem SL.Ok.alloc {w : World} {s : SL} (h : s.Ok w) (o : Obj) : s.Ok (w.alloc o) := h.below ((Below.refl _ w).alloc (Nat.le_refl _) o)

/-- A whole row of bytes, as a slice. -/
def rowS (g : Nat) (b : List By) : SL := ⟨some ⟨g, 0, none⟩, b.length, b.length, g, 0, b⟩
theorem rowS_ok {w : World} {g : Nat} {t : TypeId} {b : List By} (h : Row w g t (bs b)) : (rowS g b).Ok w :=
  ⟨rfl, Nat.le_refl _, fun e => by simp [rowS] at e, fun _ => rfl, fun _ => h.lt, fun j hj => by
    show w.cell? ⟨g, 0 + j, none⟩ = _
    rw [Nat.zero_add]; exact h.cellB hj⟩

/-- A row of the call's own, as a slice. -/
theorem SL.of_own {w : World} {base : Nat} {v : Value} {n : Nat} {xs : List By} (h : w.ownsRow base 5 1 v n (vb xs)) : ∃ s : SL, s.v = v ∧ s.len = n ∧ s.b = xs ∧ s.Ok w ∧ (0 < n → base ≤ s.g) := by
  have hl : xs.length = n := by have := h.1; rw [vb_length] at this; omega
  rcases h.2 with ⟨rfl, rfl⟩ | ⟨g, cap, cur, rfl, hg, hh, hn, _, _, _⟩
  · exact ⟨⟨none, 0, 0, 0, 0, xs⟩, rfl, rfl, rfl, ⟨hl, Nat.le_refl _, fun _ => ⟨rfl, rfl⟩, fun p => absurd p (Nat.lt_irrefl _), fun p => absurd p (Nat.lt_irrefl _), fun j hj => absurd hj (Nat.not_lt_zero _)⟩, fun p => absurd p (Nat.lt_irrefl _)⟩
  · refine ⟨⟨some ⟨g, 0, none⟩, n, cap, g, 0, xs⟩, rfl, rfl, rfl, ⟨hl, hn, fun e => (by simp at e), fun _ => rfl, fun _ => (Array.getElem?_eq_some_iff.1 hh).1, fun j hj => ?_⟩, fun _ => hg⟩
    have := h.cells (g := g) rfl j _ (vb_get xs j (by rw [hl]; exact hj))
    rw [add_off] at this
    rw [Nat.zero_add]
    exact this

section
variable {P : Program} {ops : Array Oper} {rest : List Oper} {o : Oper} {a : Act} {w : World} {Q : Exit → Act → World → Prop}
/-- What came in is appended to a row of the call's own. -/
theorem append_sl (hgd : o.guard = none) (s x : Operand) (t : TypeId) (ho : o.op = .call { callee := .builtin .append, args := #[s, x], argTypes := #[t, t] })
    (base : Nat) (i : TypeInfo) (ht : P.underlying t = some (.slice 5)) (hi : P.info? 5 = some i) (hz : i.zero = some (.int .u8 0)) (hsize : i.size = 1) (hby : i.bytes = 1)
    (v : Value) (n : Nat) (xs : List By) (hs : a.eval s = v) (hown : w.ownsRow base 5 1 v n (vb xs)) (q : SL) (hq : q.Ok w) (hx : a.eval x = .slice q.a q.len q.cap) (hl : n + q.len ≤ 8388608) (hbase : base ≤ w.heap.size)
    (h : ∀ v' w', w'.ownsRow base 5 1 v' (n + q.len) (vb (xs ++ q.b)) → w.grownBy w' v.ownBlock → wpList P ops Q rest (a.put o.dst v') w') : wpList P ops Q (o :: rest) a w := by
  obtain ⟨ad, len, cap, g, off, b⟩ := q
  cases ad with
  | none =>
    obtain ⟨h1, h2⟩ := hq.nil rfl
    simp only at h1 h2
    subst h1 h2
    have hb0 : b = [] := List.eq_nil_of_length_eq_zero hq.hb
    subst hb0
    refine wpList_append_own_none hgd s x t ho base 5 i 1 ht hi v n (vb xs) hs hown hx (h _ _ ?_ ⟨rfl, rfl, rfl, Nat.le_refl _, fun _ _ _ => rfl⟩)
    simpa using hown
  | some ad =>
    have hb : b.length = len := hq.hb
    refine wpList_append_own w hgd s x t ho base 5 i (.int .u8 0) 1 1 ht hi hz hsize hby rfl (by decide) v n (vb xs) hs hown ad len cap (vb b) hx (by rw [vb_length, hb, Nat.mul_one]) ?_ (vb_one b) (by unfold maxLen; simp only at hl; omega) (by simp only at hl; omega) hbase ?_
    · intro j u hj
      obtain ⟨h1, rfl⟩ := vb_get' b j u hj
      have e := hq.at_ (show 0 < len by omega)
      simp only at e
      injection e with e
      subst e
      rw [add_at]
      exact hq.cell j (show j < len by omega)
    · intro v' w' h1 h2 _
      rw [← vb_append] at h1
      exact h v' w' h1 h2
end
theorem own_low {w : World} {B B' n : Nat} {e : TypeId} {v : Value} {xs : List Value} (h : w.ownsRow B e 1 v n xs) (hB : B' ≤ B) : w.ownsRow B' e 1 v n xs := by
  obtain ⟨h1, h2⟩ := h
  refine ⟨h1, ?_⟩
  rcases h2 with h2 | ⟨g, c, cur, h3, h4, h5⟩
  · exact .inl h2
  · exact .inr ⟨g, c, cur, h3, Nat.le_trans hB h4, h5⟩
theorem own_below {w w' : World} {B n : Nat} {e : TypeId} {v : Value} {xs : List Value} (h : w.ownsRow B e 1 v n xs) (hb : Below w.heap.size w w') : w'.ownsRow B e 1 v n xs :=
  h.kept (row := none) ⟨hb.os, hb.tape, hb.output, hb.size, fun k hk _ => hb.block k hk⟩ (Classical.em _)
def rowN (g n : Nat) (b : List By) : SL := ⟨some ⟨g, 0, none⟩, n, n, g, 0, b⟩
theorem rowN_ok {w : World} {g n : Nat} {t : TypeId} {b : List By} (h : Row w g t (bs b)) (hn : b.length = n) : (rowN g n b).Ok w := by
  subst hn
  exact rowS_ok h
section
variable {P : Program} {a : Act} {w : World}
theorem exec_append {o : Oper} (s x : Operand) (t1 t2 : TypeId) (ho : o.op = .call { callee := .builtin .append, args := #[s, x], argTypes := #[t1, t2] }) (vs vx : Value) (hs : a.eval s = vs) (hx : a.eval x = vx)
    (v : Value) (w' : World) (hr : (Builtin.append_ #[t1, t2] o.type #[vs, vx]).run P w = .ok v w') : (execOp a.eval o).run P w = .ok (.value v) w' := by
  unfold execOp
  simp only [ho, resolve, invoke, builtin, Sem.run_bind, Sem.run_pure, Result.andThen_ok, List.map_toArray, List.map_cons, List.map_nil, hs, hx, hr]
end
end Go.Proofs.YtaighdppemnglaaGreatDoor

/-! varint.Put, varint.Get and the document's Get, in the words of layer 7. -/
namespace Go.Proofs.YtaighdppemnglaaGreatDoor
open Go Go.RowKit

theorem ofNat8_v8 (n : Nat) : v8 (BitVec.ofNat 8 n) = (n : Int) % 256 := by
  unfold v8
  rw [BitVec.toNat_ofNat]
  omega

theorem putL_num (n : Nat) (h : n ≤ 4611686018427387903) : putL (n : Int) = (Fr.numL n).map v8 := by
  unfold putL
  by_cases c1 : n < 64
  · rw [if_pos (by omega), Fr.numL_1 n c1]
    simp only [List.map_cons, List.map_nil, ofNat8_v8]
    congr 1
    omega
  by_cases c2 : n < 16384
  · rw [if_neg (by omega), if_pos (by omega), Fr.numL_2 n c1 c2]
    simp only [List.map_cons, List.map_nil, ofNat8_v8]
    congr 1
    · omega
    · congr 1
      omega
  by_cases c3 : n < 1073741824
  · rw [if_neg (by omega), if_neg (by omega), if_pos (by omega), Fr.numL_4 n c1 c2 c3]
    simp only [List.map_cons, List.map_nil, ofNat8_v8]
    refine List.cons_eq_cons.2 ⟨by omega, List.cons_eq_cons.2 ⟨by omega, List.cons_eq_cons.2 ⟨by omega, List.cons_eq_cons.2 ⟨by omega, rfl⟩⟩⟩⟩
  · rw [if_neg (by omega), if_neg (by omega), if_neg (by omega), Fr.numL_8 n c1 c2 c3]
    simp only [List.map_cons, List.map_nil, ofNat8_v8]
    refine List.cons_eq_cons.2 ⟨by omega, List.cons_eq_cons.2 ⟨by omega, List.cons_eq_cons.2 ⟨by omega, List.cons_eq_cons.2 ⟨by omega, List.cons_eq_cons.2 ⟨by omega, List.cons_eq_cons.2 ⟨by omega, List.cons_eq_cons.2 ⟨by omega, List.cons_eq_cons.2 ⟨by omega, rfl⟩⟩⟩⟩⟩⟩⟩⟩

theorem vb_map (b : List By) : (b.map v8).map (Value.int .u8) = vb b := by simp [vb]

theorem own_litV (w : World) (b : List By) (h : b.length ≤ maxLen) : (w.alloc (.cells (vb b).toArray 5)).ownsRow w.heap.size 5 1 (.slice (some ⟨w.heap.size, 0, none⟩) b.length b.length) b.length (vb b) := by
  have := World.ownsRow_lit (base := w.heap.size) (e := 5) (size := 1) w (vb b).toArray b.length (Nat.le_refl _) h (by simp [vb_length])
  simpa [vb_length] using this

/-- varint.Put: a number's bytes, in memory of their own. -/
theorem var_put (n : Nat) (w : World) (h : n ≤ 4611686018427387903) (hL : Lens w) :
    Calls Tryz.prog 125 #[.int .u64 (n : Int)] w fun e w' => e = .returned (.tuple #[.slice (some ⟨w.heap.size, 0, none⟩) (Fr.numL n).length (Fr.numL n).length, .int .i64 0]) ∧ w'.ownsRow w.heap.size 5 1 (.slice (some ⟨w.heap.size, 0, none⟩) (Fr.numL n).length (Fr.numL n).length) (Fr.numL n).length (vb (Fr.numL n)) ∧ Below w.heap.size w w' := by
  have hm : (Fr.numL n).length ≤ maxLen := by have := Fr.szN_le n; rw [Fr.numL_length]; unfold maxLen; omega
  have ho := own_litV w (Fr.numL n) hm
  have hB : Below w.heap.size w (w.alloc (.cells (vb (Fr.numL n)).toArray 5)) := (Below.refl _ w).alloc (Nat.le_refl _) _
  have hp := putL_num n h
  have hv : (putL (n : Int)).map (Value.int .u8) = vb (Fr.numL n) := by rw [hp, vb_map]
  have hlen : (putL (n : Int)).length = (Fr.numL n).length := by rw [hp, List.length_map]
  rw [← hv, ← hlen] at ho ⊢
  rw [← hv] at hB
  by_cases c1 : (n : Int) < 64
  · have e : putL (n : Int) = [(n : Int)] := by unfold putL; rw [if_pos c1]
    rw [e] at ho hB ⊢
    exact (put_1 n w (by omega) c1 hL).mono fun e' w' ⟨a1, a2⟩ => ⟨a1, by rw [a2]; exact ho, by rw [a2]; exact hB⟩
  by_cases c2 : (n : Int) < 16384
  · have e : putL (n : Int) = [64 + (n : Int) / 256, (n : Int) % 256] := by unfold putL; rw [if_neg c1, if_pos c2]
    rw [e] at ho hB ⊢
    exact (put_2 n w (by omega) c2 hL).mono fun e' w' ⟨a1, a2⟩ => ⟨a1, by rw [a2]; exact ho, by rw [a2]; exact hB⟩
  by_cases c3 : (n : Int) < 1073741824
  · have e : putL (n : Int) = [128 + (n : Int) / 16777216, (n : Int) / 65536 % 256, (n : Int) / 256 % 256, (n : Int) % 256] := by unfold putL; rw [if_neg c1, if_neg c2, if_pos c3]
    rw [e] at ho hB ⊢
    exact (put_4 n w (by omega) c3 hL).mono fun e' w' ⟨a1, a2⟩ => ⟨a1, by rw [a2]; exact ho, by rw [a2]; exact hB⟩
  · have e : putL (n : Int) = [192 + (n : Int) / 72057594037927936, (n : Int) / 281474976710656 % 256, (n : Int) / 1099511627776 % 256, (n : Int) / 4294967296 % 256, (n : Int) / 16777216 % 256, (n : Int) / 65536 % 256, (n : Int) / 256 % 256, (n : Int) % 256] := by unfold putL; rw [if_neg c1, if_neg c2, if_neg c3]
    rw [e] at ho hB ⊢
    exact (put_8 n w (by omega) (by omega) hL).mono fun e' w' ⟨a1, a2⟩ => ⟨a1, by rw [a2]; exact ho, by rw [a2]; exact hB⟩

/-- What Get answers of bytes. -/
def gotN (b : List By) : Nat × Nat × Nat := match Fr.getN b with
  | none => (0, 0, 4)
  | some (n, k) => (n, k, 0)

theorem acc_beV (l : List By) : ∀ n : Nat, acc (n : Int) (l.map v8) = (Fr.beV n l : Nat) := by
  induction l with
  | nil => intro n; rfl
  | cons c r ih =>
    intro n
    show acc (256 * (n : Int) + v8 c) (r.map v8) = _
    rw [show 256 * (n : Int) + v8 c = ((256 * n + c.toNat : Nat) : Int) by unfold v8; omega, ih]
    rfl

theorem klen_pow (c : By) : klen (v8 c) = 2 ^ (c.toNat / 64) := by
  have hc := c.isLt
  unfold klen v8
  rcases (show c.toNat / 64 = 0 ∨ c.toNat / 64 = 1 ∨ c.toNat / 64 = 2 ∨ c.toNat / 64 = 3 by omega) with h | h | h | h
  · rw [h, if_pos (by omega)]
  · rw [h, if_neg (by omega), if_pos (by omega)]
  · rw [h, if_neg (by omega), if_neg (by omega), if_pos (by omega)]
  · rw [h, if_neg (by omega), if_neg (by omega), if_neg (by omega)]

theorem gotN_cons (c : By) (r : List By) : gotN (c :: r) = if (c :: r).length < 2 ^ (c.toNat / 64) then (0, 0, 4) else (Fr.beV (c.toNat % 64) (r.take (2 ^ (c.toNat / 64) - 1)), 2 ^ (c.toNat / 64), 0) := by
  unfold gotN
  have e : Fr.getN (c :: r) = if (c :: r).length < 2 ^ (c.toNat / 64) then none else some (Fr.beV (c.toNat % 64) (r.take (2 ^ (c.toNat / 64) - 1)), 2 ^ (c.toNat / 64)) := rfl
  rw [e]
  by_cases hs : (c :: r).length < 2 ^ (c.toNat / 64)
  · rw [if_pos hs, if_pos hs]
  · rw [if_neg hs, if_neg hs]

theorem getR_num (b : List By) : getR (b.map v8) = (((gotN b).1 : Int), (gotN b).2.1, ((gotN b).2.2 : Int)) := by
  cases b with
  | nil => rfl
  | cons c r =>
    rw [gotN_cons]
    unfold getR
    rw [if_neg (by simp)]
    have e0 : ((c :: r).map v8)[0]?.getD 0 = v8 c := rfl
    rw [e0, klen_pow, List.length_map]
    by_cases hs : (c :: r).length < 2 ^ (c.toNat / 64)
    · rw [if_pos hs, if_pos hs]; rfl
    · rw [if_neg hs, if_neg hs]
      have : told ((c :: r).map v8) (2 ^ (c.toNat / 64) - 1) = (Fr.beV (c.toNat % 64) (r.take (2 ^ (c.toNat / 64) - 1)) : Nat) := by
        unfold told
        rw [e0, List.map_cons, List.drop_succ_cons, List.drop_zero, ← List.map_take, show v8 c % 64 = ((c.toNat % 64 : Nat) : Int) by unfold v8; omega, acc_beV]
      rw [this]
      rfl

theorem lies_sl {w : World} {s : SL} (h : s.Ok w) : LiesV w s.a (s.b.map v8) := by
  by_cases hp : 0 < s.len
  · refine .inr ⟨s.g, s.off, h.at_ hp, h.lt hp, fun j hj => ?_⟩
    rw [List.length_map, h.hb] at hj
    rw [h.cell j hj]
    congr 2
    unfold gb
    rw [List.getElem?_map, List.getElem?_eq_getElem (by rw [h.hb]; exact hj)]
    rfl
  · left
    rw [List.eq_nil_of_length_eq_zero (by have := h.hb; omega : s.b.length = 0)]
    rfl
theorem byte_range (b : List By) (j : Nat) : 0 ≤ (b.map v8)[j]?.getD 0 ∧ (b.map v8)[j]?.getD 0 ≤ 255 := by
  rw [List.getElem?_map]
  cases b[j]? with
  | none => exact ⟨by decide, by decide⟩
  | some c => exact ⟨v8_nn c, v8_le c⟩

def gotV (b : List By) : Value := .tuple #[.int .u64 ((gotN b).1 : Int), .int .i64 ((gotN b).2.1 : Int), .int .i64 ((gotN b).2.2 : Int)]
theorem getV_num (b : List By) : getV (b.map v8) = gotV b := by
  unfold getV gotV
  rw [getR_num]

/-- varint.Get, at any bytes. -/
theorem var_get (s : SL) (w : World) (hs : s.Ok w) (hl : s.len ≤ 1073741824) (hL : Lens w) :
    Calls Tryz.prog 155 #[.slice s.a s.len s.cap] w fun e w' => e = .returned (gotV s.b) ∧ w' = w := by
  rw [← getV_num]
  exact get_any s.a s.len s.cap (s.b.map v8) w (by rw [List.length_map, hs.hb]) hl hs.hcap (lies_sl hs) (byte_range s.b) hL
theorem Lens.step {w w' : World} (h : Lens w) (hb : Below w.heap.size w w') : Lens w' := by
  have hp : 1 < w.heap.size := by
    rcases Nat.lt_or_ge 1 w.heap.size with h0 | h0
    · exact h0
    · have := h.1
      simp [World.cell?, Array.getElem?_eq_none h0] at this
  exact ⟨(hb.cell (p := ⟨1, 0, none⟩) hp).trans h.1, (hb.cell (p := ⟨1, 1, none⟩) hp).trans h.2.1, (hb.cell (p := ⟨1, 2, none⟩) hp).trans h.2.2.1, (hb.cell (p := ⟨1, 3, none⟩) hp).trans h.2.2.2⟩
end Go.Proofs.YtaighdppemnglaaGreatDoor

/-! Ranges in memory. -/
namespace Go.Proofs.YtaighdppemnglaaGreatDoor
open Go Go.RowKit

def gr (l : List (Nat × Nat)) (j : Nat) : Nat × Nat := l[j]?.getD (0, 0)
/-- A slice of ranges, and what lies in it. -/
structure RL where
  a : Option Addr
  len : Nat
  cap : Nat
  g : Nat
  off : Nat
  l : List (Nat × Nat)
structure RL.Ok (w : World) (s : RL) : Prop where
  hb : s.l.length = s.len
  hcap : s.len ≤ s.cap
  nil : s.a = none → s.len = 0 ∧ s.cap = 0
  at_ : 0 < s.len → s.a = some ⟨s.g, s.off, none⟩
  lt : 0 < s.len → s.g < w.heap.size
  cell : ∀ j : Nat, j < s.len → w.cell? ⟨s.g, s.off + j * 2, none⟩ = some (.int .u64 ((gr s.l j).1 : Int)) ∧ w.cell? ⟨s.g, s.off + j * 2 + 1, none⟩ = some (.int .u64 ((gr s.l j).2 : Int))
  small : ∀ j, (gr s.l j).1 < 18446744073709551616 ∧ (gr s.l j).2 < 18446744073709551616
theorem RL.Ok.same {w w' : World} {s : RL} (h : s.Ok w) (hs : 0 < s.len → w'.heap[s.g]? = w.heap[s.g]?) (hz : w.heap.size ≤ w'.heap.size) : s.Ok w' :=
  ⟨h.hb, h.hcap, h.nil, h.at_, fun p => Nat.lt_of_lt_of_le (h.lt p) hz, fun j hj => ⟨(World.cell?_of_block (a := ⟨s.g, s.off + j * 2, none⟩) (hs (by omega))).trans (h.cell j hj).1, (World.cell?_of_block (a := ⟨s.g, s.off + j * 2 + 1, none⟩) (hs (by omega))).trans (h.cell j hj).2⟩, h.small⟩
theorem RL.Ok.below {w w' : World} {s : RL} (h : s.Ok w) (hb : Below w.heap.size w w') : s.Ok w' := h.same (fun p => hb.block _ (h.lt p)) hb.size


end Go.Proofs.YtaighdppemnglaaGreatDoor

/-! What SameBytes answers of slices with the same bytes. -/
namespace Go.Proofs.YtaighdppemnglaaGreatDoor
open Go Go.RowKit

set_option maxHeartbeats 1000000 in
theorem same_sl (p q : SL) (w : World) (hp : p.Ok w) (hq : q.Ok w) (hb : p.b = q.b) (hl : p.len ≤ 8388608) :
    Calls Tryz.prog 10 #[.slice p.a p.len p.cap, .slice q.a q.len q.cap] w fun e w' => e = .returned (.bool true) ∧ Below w.heap.size w w' := by
  have hpq : p.len = q.len := by rw [← hp.hb, ← hq.hb, hb]
  obtain ⟨pa, pl, pc, pg, po, pb⟩ := p
  obtain ⟨qa, ql, qc, qg, qo, qb⟩ := q
  simp only at hb hpq hl ⊢
  subst hb hpq
  have HP := veil hp
  have HQ := veil hq
  clear hp hq
  have h1 : ((pl : Int) != (pl : Int)) = false := by simp
  go_enter Tryz.func10, Tryz.ntmps10
  go_wp2
  go_loopw [5] (fun i wr => ∃ k : Nat, k ≤ pl ∧ i = .int .i64 k ∧ Below w.heap.size w wr)
    (fun i _ => pl - (intOf i).toNat)
  case atStart => exact ⟨0, Nat.zero_le _, rfl, Below.refl _ _⟩
  case round =>
    obtain ⟨k, hk, rfl, hbel⟩ := hrel
    by_cases hlt : k < pl
    · have e1 : pa = some ⟨pg, po, none⟩ := HP.out.at_ (show 0 < pl by omega)
      have e2 : qa = some ⟨qg, qo, none⟩ := HQ.out.at_ (show 0 < pl by omega)
      subst e1 e2
      have c1 : wr.cell? ⟨pg, po + k, none⟩ = some (.int .u8 (v8 (gb pb k))) := (hbel.cell (p := ⟨pg, po + k, none⟩) (HP.out.lt (show 0 < pl by omega))).trans (HP.out.cell k hlt)
      have c2 : wr.cell? ⟨qg, qo + k, none⟩ = some (.int .u8 (v8 (gb pb k))) := (hbel.cell (p := ⟨qg, qo + k, none⟩) (HQ.out.lt (show 0 < pl by omega))).trans (HQ.out.cell k hlt)
      generalize v8 (gb pb k) = y at *
      have hxy : (y != y) = false := by simp
      go_wp2
      go_region
      all_goals go_wp2
      all_goals
        go_roundw
        case rel => exact ⟨k + 1, by omega, by go_num, hbel.drew⟩
        case measure => simp [intOf]; omega
    · obtain rfl : pl = k := by omega
      go_wp2
      go_ret
      exact ⟨rfl, hbel⟩
end Go.Proofs.YtaighdppemnglaaGreatDoor

/-! Ranges and frames in memory. -/
namespace Go.Proofs.YtaighdppemnglaaGreatDoor
open Go Go.RowKit

/-- A frame, and the slices in it. -/
structure FrM where
  kind : Nat
  stream : Nat
  offset : Nat
  limit : Nat
  code : Nat
  fin : Bool
  data : SL
  ranges : RL
def FrM.cells (f : FrM) : Array Value := #[.int .u8 (f.kind : Int), .int .u64 (f.stream : Int), .int .u64 (f.offset : Int), .int .u64 (f.limit : Int), .int .u64 (f.code : Int), .bool f.fin, .slice f.data.a f.data.len f.data.cap, .slice f.ranges.a f.ranges.len f.ranges.cap]
def FrM.fr (f : FrM) : Fr.Frame := ⟨f.kind, f.stream, f.offset, f.limit, f.code, f.fin, f.data.b, f.ranges.l⟩
structure FrM.Ok (w : World) (f : FrM) : Prop where
  data : f.data.Ok w
  ranges : f.ranges.Ok w
  k8 : f.kind < 256
  st : f.stream < 18446744073709551616
  of : f.offset < 18446744073709551616
  li : f.limit < 18446744073709551616
  co : f.code < 18446744073709551616
theorem FrM.Ok.below {w w' : World} {f : FrM} (h : f.Ok w) (hb : Below w.heap.size w w') : f.Ok w' := ⟨h.data.below hb, h.ranges.below hb, h.k8, h.st, h.of, h.li, h.co⟩
theorem fr_cells {W : World} {g : Nat} {t : TypeId} {f : FrM} (r : Row W g t f.cells) : W.cell? ⟨g, 0, none⟩ = some (.int .u8 (f.kind : Int)) ∧ W.cell? ⟨g, 1, none⟩ = some (.int .u64 (f.stream : Int)) ∧ W.cell? ⟨g, 2, none⟩ = some (.int .u64 (f.offset : Int)) ∧ W.cell? ⟨g, 3, none⟩ = some (.int .u64 (f.limit : Int)) ∧ W.cell? ⟨g, 4, none⟩ = some (.int .u64 (f.code : Int)) ∧ W.cell? ⟨g, 5, none⟩ = some (.bool f.fin) ∧ W.cell? ⟨g, 6, none⟩ = some (.slice f.data.a f.data.len f.data.cap) ∧ W.cell? ⟨g, 7, none⟩ = some (.slice f.ranges.a f.ranges.len f.ranges.cap) :=
  ⟨r.cell 0, r.cell 1, r.cell 2, r.cell 3, r.cell 4, r.cell 5, r.cell 6, r.cell 7⟩

end Go.Proofs.YtaighdppemnglaaGreatDoor

/-! Lists of frames in memory. -/
namespace Go.Proofs.YtaighdppemnglaaGreatDoor
open Go Go.RowKit

section
variable {P : Program} {a : Act} {o : Oper}
theorem run_midF (ty : TypeId) (x : Operand) (g off : Nat) (cs : Array Value) (d : TypeDesc) (ho : o.op = .load ty x) (hx : a.eval x = .pointer (some ⟨g, off, none⟩)) (hu : P.underlying ty = some d) (hd : d.isRow = true) (hi : (P.info? ty).map (·.size) = some cs.size) (W : World) (hc : W.rangeAt g off cs.toList) :
    (execOp a.eval o).run P W = .ok (.value (.agg cs)) W := by
  have h := run_loadAt_mid (P := P) W g off ty cs.toList d hc hu hd (by simpa using hi)
  unfold execOp
  simp only [ho, hx, Sem.run_bind, h, Result.andThen_ok, Sem.run_pure]
theorem run_atF (t e : TypeId) (m : Nat) (x ix : Operand) (g off len cap j : Nat) (ho : o.op = .indexAddr t x ix) (hx : a.eval x = .slice (some ⟨g, off, none⟩) len cap) (hix : a.eval ix = .int .i64 (j : Int))
    (hu : P.underlying t = some (.slice e)) (hi : (P.info? e).map (·.size) = some m) (hj : j < len) (W : World) : (execOp a.eval o).run P W = .ok (.value (.pointer (some ⟨g, off + j * m, none⟩))) W := by
  have hsz : (sizeOf e).run P W = .ok m W := by
    cases hq : P.info? e with
    | none => simp [hq] at hi
    | some i =>
      have : i.size = m := by simpa [hq] using hi
      simp [sizeOf, typeInfo, hq, this]
  unfold execOp
  simp [ho, hx, hix, Instr.indexAt, asIntOf, run_underlying hu, hj, hsz, Addr.add_mid]
end
def f0M : FrM := ⟨0, 0, 0, 0, 0, false, ⟨none, 0, 0, 0, 0, []⟩, ⟨none, 0, 0, 0, 0, []⟩⟩
def gf (l : List FrM) (j : Nat) : FrM := l[j]?.getD f0M
/-- A slice of frames, and what lies in it. -/
structure FS where
  a : Option Addr
  len : Nat
  cap : Nat
  g : Nat
  off : Nat
  l : List FrM
structure FS.Ok (w : World) (s : FS) : Prop where
  hb : s.l.length = s.len
  hcap : s.len ≤ s.cap
  nil : s.a = none → s.len = 0 ∧ s.cap = 0
  at_ : 0 < s.len → s.a = some ⟨s.g, s.off, none⟩
  lt : 0 < s.len → s.g < w.heap.size
  cell : ∀ j : Nat, j < s.len → w.rangeAt s.g (s.off + j * 8) (gf s.l j).cells.toList
  each : ∀ j : Nat, j < s.len → (gf s.l j).Ok w
theorem FS.Ok.below {w w' : World} {s : FS} (h : s.Ok w) (hb : Below w.heap.size w w') : s.Ok w' :=
  ⟨h.hb, h.hcap, h.nil, h.at_, fun p => Nat.lt_of_lt_of_le (h.lt p) hb.size, fun j hj i v hv => (hb.cell (p := ⟨s.g, s.off + j * 8 + i, none⟩) (h.lt (by omega))).trans (h.cell j hj i v hv), fun j hj => (h.each j hj).below hb⟩
/-- The frames themselves. -/
def FS.fr (s : FS) : List Fr.Frame := s.l.map FrM.fr
theorem fr_get {s q : FS} (h : s.fr = q.fr) (j : Nat) (hj : j < s.l.length) : (gf s.l j).fr = (gf q.l j).fr := by
  have hl : s.l.length = q.l.length := by have := congrArg List.length h; simpa [FS.fr] using this
  have := congrArg (·[j]?) h
  simp only [FS.fr, List.getElem?_map, List.getElem?_eq_getElem hj, List.getElem?_eq_getElem (show j < q.l.length by omega), Option.map_some, Option.some.injEq] at this
  unfold gf
  rw [List.getElem?_eq_getElem hj, List.getElem?_eq_getElem (show j < q.l.length by omega)]
  exact this

end Go.Proofs.YtaighdppemnglaaGreatDoor

/-! Ranges that are a set, one by one. -/
namespace Go.Proofs.YtaighdppemnglaaGreatDoor
open Go Go.RowKit

/-- What a set's ranges are. -/
theorem set_at : ∀ (l : List (Nat × Nat)), Fr.setL l → ∀ j, j < l.length → (gr l j).1 ≤ (gr l j).2 ∧ (gr l j).2 ≤ 4611686018427387903 ∧ (j + 1 < l.length → (gr l j).2 + 1 < (gr l (j + 1)).1)
  | [], _, j, h => by simp at h
  | [(a, b)], hs, 0, _ => ⟨hs.1, hs.2, fun h => by simp at h⟩
  | [(a, b)], _, j + 1, h => by simp at h
  | (a, b) :: (c, d) :: r, hs, 0, _ => ⟨hs.1, hs.2.1, fun _ => hs.2.2.1⟩
  | (a, b) :: (c, d) :: r, hs, j + 1, h => by
    have := set_at ((c, d) :: r) hs.2.2.2 j (by simpa using h)
    have g : ∀ i, gr ((a, b) :: (c, d) :: r) (i + 1) = gr ((c, d) :: r) i := fun i => by simp [gr]
    rw [g, g]
    exact ⟨this.1, this.2.1, fun h' => this.2.2 (by simpa using h')⟩

theorem range_row {W : World} {g : Nat} {t : TypeId} {cs : Array Value} (h : Row W g t cs) : W.rangeAt g 0 cs.toList := by
  intro j v hj
  rw [Nat.zero_add, h.cell j]
  simpa using hj
/-- The first k ranges are as a set's are. -/
def setTo (l : List (Nat × Nat)) (k : Nat) : Prop := ∀ j, j < k → (gr l j).1 ≤ (gr l j).2 ∧ (gr l j).2 ≤ 4611686018427387903 ∧ (0 < j → (gr l (j - 1)).2 + 1 < (gr l j).1)
theorem setTo_L : ∀ (l : List (Nat × Nat)), setTo l l.length → Fr.setL l
  | [], _ => trivial
  | [(a, b)], h => ⟨(h 0 (by simp)).1, (h 0 (by simp)).2.1⟩
  | (a, b) :: (c, d) :: r, h => by
    have h0 := h 0 (by simp)
    have h1 := h 1 (by simp)
    refine ⟨h0.1, h0.2.1, h1.2.2 (by decide), setTo_L ((c, d) :: r) fun j hj => ?_⟩
    have hs := h (j + 1) (by simpa using hj)
    have g : ∀ i, gr ((a, b) :: (c, d) :: r) (i + 1) = gr ((c, d) :: r) i := fun i => by simp [gr]
    rw [g] at hs
    refine ⟨hs.1, hs.2.1, fun hp => ?_⟩
    have := hs.2.2 (by omega)
    rw [show j + 1 - 1 = (j - 1) + 1 by omega, g] at this
    exact this
theorem setTo_succ {l : List (Nat × Nat)} {k : Nat} (h : setTo l k) (h1 : (gr l k).1 ≤ (gr l k).2) (h2 : (gr l k).2 ≤ 4611686018427387903) (h3 : 0 < k → (gr l (k - 1)).2 + 1 < (gr l k).1) : setTo l (k + 1) := fun j hj => by
  rcases Nat.lt_or_ge j k with e | e
  · exact h j e
  · obtain rfl : j = k := by omega
    exact ⟨h1, h2, h3⟩
theorem setL_to (l : List (Nat × Nat)) (h : Fr.setL l) (k : Nat) (hk : k ≤ l.length) : setTo l k := fun j hj => by
  have h1 := set_at l h j (by omega)
  refine ⟨h1.1, h1.2.1, fun hp => ?_⟩
  have h2 := (set_at l h (j - 1) (by omega)).2.2 (by omega)
  rw [show j - 1 + 1 = j by omega] at h2
  exact h2

end Go.Proofs.YtaighdppemnglaaGreatDoor

/-! Helpers of layer 7: no program in sight but its types' numbers. -/
namespace Go.Proofs.YtaighdppemnglaaGreatDoor
open Go Go.RowKit

/-- What is done to a row of the call's own: below its base all is as it was, and so is all that is no row of bytes. -/
structure Keep (base : Nat) (w w' : World) : Prop where
  bel : Below base w w'
  oth : ∀ (p : Nat) (cs : Array Value) (t : TypeId) (fr : Nat × Nat), t ≠ 5 → w.heap[p]? = some (.cells cs t fr) → w'.heap[p]? = some (.cells cs t fr)
theorem Keep.refl (base : Nat) (w : World) : Keep base w w := ⟨Below.refl _ _, fun _ _ _ _ _ h => h⟩
theorem Keep.trans {base : Nat} {a b c : World} (h : Keep base a b) (k : Keep base b c) : Keep base a c := ⟨h.bel.trans k.bel, fun p cs t fr ht hp => k.oth p cs t fr ht (h.oth p cs t fr ht hp)⟩
theorem Keep.of_below {base : Nat} {w w' : World} (h : Below w.heap.size w w') (hb : base ≤ w.heap.size) : Keep base w w' :=
  ⟨h.mono hb, fun p _ _ _ _ hp => (h.block p (Array.getElem?_eq_some_iff.1 hp).1).trans hp⟩
theorem Keep.of_grown {base n : Nat} {v : Value} {xs : List Value} {w w' : World} (hown : w.ownsRow base 5 1 v n xs) (hg : w.grownBy w' v.ownBlock) (hb : base ≤ w.heap.size) : Keep base w w' := by
  refine ⟨(Below.refl _ w).grown hg hb (fun q e => (hown.lt q e).1), fun p cs t fr ht hp => ?_⟩
  refine (hg.block p (Array.getElem?_eq_some_iff.1 hp).1 fun e => ?_).trans hp
  rcases hown.2 with ⟨rfl, _⟩ | ⟨g, cap, cur, rfl, _, hh, _⟩
  · simp [Value.ownBlock] at e
  · simp only [Value.ownBlock, Option.some.injEq] at e
    subst e
    rw [hp] at hh
    injection hh with hh
    injection hh with _ h2 _
    exact ht h2
theorem Keep.row {base g : Nat} {t : TypeId} {cs : Array Value} {w w' : World} (h : Keep base w w') (ht : t ≠ 5) (r : Row w g t cs) : Row w' g t cs := h.oth g cs t _ ht r
theorem Keep.size {base : Nat} {w w' : World} (h : Keep base w w') : w.heap.size ≤ w'.heap.size := h.bel.size

theorem run_cellF {P : Program} {a : Act} {o : Oper} (ty : TypeId) (x : Operand) (p : Addr) (v : Value) (d : TypeDesc) (ho : o.op = .load ty x) (hx : a.eval x = .pointer (some p)) (hu : P.underlying ty = some d) (hd : (match d with | .struct _ | .array _ _ => true | _ => false) = false)
    (W : World) (hv : W.cell? p = some v) : (execOp a.eval o).run P W = .ok (.value v) W := by
  have hag : (isAgg ty).run P W = .ok false W := by
    unfold isAgg
    rw [Sem.run_bind, run_underlying hu W]
    cases d <;> simp_all
  unfold execOp
  simp [ho, hx, Instr.loadAt, Instr.sureAddr, loadVar, hag, hv]
/-- A row of the call's own, with bytes. -/
def RowK (base : Nat) (L : List By) (W : World) (v : Value) : Prop := W.ownsRow base 5 1 v L.length (vb L)

theorem may_kind {f : Fr.Frame} (h : Fr.mayF f) : 1 ≤ f.kind ∧ f.kind ≤ 14 := by
  obtain ⟨_, h⟩ := h
  revert h
  split <;> first | (intro h; exact False.elim h) | (intro _; omega)

/-- The first k frames may be, one behind the other. -/
def okT (l : List FrM) (k : Nat) : Prop := ∀ j, j < k → Fr.mayF (gf l j).fr ∧ (0 < j → ¬ ((gf l j).kind = 1 ∧ (gf l (j - 1)).kind = 1))
theorem gf_succ (f : FrM) (l : List FrM) (j : Nat) : gf (f :: l) (j + 1) = gf l j := by simp [gf]
theorem sep_iff : ∀ (l : List FrM) (p : Bool), Fr.sepL p (l.map FrM.fr) ↔ (0 < l.length → ¬ (p = true ∧ (gf l 0).kind = 1)) ∧ ∀ j, j < l.length → 0 < j → ¬ ((gf l j).kind = 1 ∧ (gf l (j - 1)).kind = 1)
  | [], p => ⟨fun _ => ⟨fun h => absurd h (by decide), fun j hj => absurd hj (Nat.not_lt_zero _)⟩, fun _ => trivial⟩
  | f :: l, p => by
    have ih := sep_iff l (f.kind == 1)
    have e : Fr.sepL p ((f :: l).map FrM.fr) ↔ ¬ (p = true ∧ f.kind = 1) ∧ Fr.sepL (f.kind == 1) (l.map FrM.fr) := Iff.rfl
    rw [e, ih]
    have g0 : gf (f :: l) 0 = f := rfl
    constructor
    · rintro ⟨h1, h2, h3⟩
      refine ⟨fun _ => by rw [g0]; exact h1, fun j hj hp => ?_⟩
      cases j with
      | zero => omega
      | succ j =>
        have hj' : j < l.length := by simpa using hj
        rw [gf_succ, Nat.add_sub_cancel]
        cases j with
        | zero =>
          rw [g0]
          rintro ⟨q1, q2⟩
          exact h2 hj' ⟨by rw [q2]; rfl, q1⟩
        | succ j =>
          rw [gf_succ]
          exact h3 (j + 1) hj' (by omega)
    · rintro ⟨h1, h2⟩
      refine ⟨by have := h1 (by simp); rwa [g0] at this, fun hl => ?_, fun j hj hp => ?_⟩
      · have := h2 1 (by simpa using hl) (by decide)
        rw [gf_succ] at this
        rintro ⟨q1, q2⟩
        exact this ⟨q2, by show f.kind = 1; simpa using q1⟩
      · have := h2 (j + 1) (by simpa using hj) (by omega)
        rw [gf_succ, Nat.add_sub_cancel] at this
        cases j with
        | zero => omega
        | succ j => rwa [gf_succ] at this
theorem okT_iff (l : List FrM) : okT l l.length ↔ (∀ f ∈ l.map FrM.fr, Fr.mayF f) ∧ Fr.sepL false (l.map FrM.fr) := by
  rw [sep_iff]
  constructor
  · intro h
    refine ⟨fun f hf => ?_, fun _ hq => Bool.noConfusion hq.1, fun j hj hp => (h j hj).2 hp⟩
    obtain ⟨q, hq, rfl⟩ := List.mem_map.1 hf
    obtain ⟨j, hj, rfl⟩ := List.getElem_of_mem hq
    have := (h j hj).1
    unfold gf at this
    rwa [List.getElem?_eq_getElem hj] at this
  · rintro ⟨h1, _, h3⟩ j hj
    refine ⟨h1 _ (List.mem_map.2 ⟨gf l j, ?_, rfl⟩), h3 j hj⟩
    unfold gf
    rw [List.getElem?_eq_getElem hj]
    exact List.getElem_mem hj
theorem okT_succ {l : List FrM} {k : Nat} (h : okT l k) (h1 : Fr.mayF (gf l k).fr) (h2 : 0 < k → ¬ ((gf l k).kind = 1 ∧ (gf l (k - 1)).kind = 1)) : okT l (k + 1) := fun j hj => by
  rcases Nat.lt_or_ge j k with e | e
  · exact h j e
  · obtain rfl : j = k := by omega
    exact ⟨h1, h2⟩
theorem putAll_take (l : List FrM) (k : Nat) (hk : k < l.length) : Fr.putAll ((l.take (k + 1)).map FrM.fr) = Fr.putAll ((l.take k).map FrM.fr) ++ Fr.putF (gf l k).fr := by
  have e : gf l k = l[k] := by unfold gf; rw [List.getElem?_eq_getElem hk]; rfl
  rw [List.take_succ_eq_append_getElem hk, List.map_append, Fr.putAll_append, e]
  simp [Fr.putAll]
theorem putAll_mono (l : List FrM) (k : Nat) : (Fr.putAll ((l.take k).map FrM.fr)).length ≤ (Fr.putAll (l.map FrM.fr)).length := by
  have e : l.map FrM.fr = (l.take k).map FrM.fr ++ (l.drop k).map FrM.fr := by rw [← List.map_append, List.take_append_drop]
  rw [e, Fr.putAll_append, List.length_append]
  omega
theorem own_shapeF {w : World} {base n : Nat} {v : Value} {xs : List Value} (h : w.ownsRow base 5 1 v n xs) : ∃ a c, v = .slice a n c := by
  rcases h.2 with ⟨rfl, rfl⟩ | ⟨g, c, _, rfl, _⟩
  · exact ⟨none, 0, rfl⟩
  · exact ⟨_, c, rfl⟩

/-- What Put answers: the error's number. -/
noncomputable def putE (l : List Fr.Frame) : Nat := open Classical in if (∀ f ∈ l, Fr.mayF f) ∧ Fr.sepL false l then (if 1024 < l.length then 3 else if 1048576 < (Fr.putAll l).length then 3 else 0) else 1
noncomputable def putO (l : List Fr.Frame) : List By := if putE l = 0 then Fr.putAll l else []
theorem putE_no {l : List Fr.Frame} (h : ¬ ((∀ f ∈ l, Fr.mayF f) ∧ Fr.sepL false l)) : putE l = 1 := by unfold putE; rw [if_neg h]
theorem putE_many {l : List Fr.Frame} (h : (∀ f ∈ l, Fr.mayF f) ∧ Fr.sepL false l) (h2 : 1024 < l.length) : putE l = 3 := by unfold putE; rw [if_pos h, if_pos h2]
theorem putE_long {l : List Fr.Frame} (h : (∀ f ∈ l, Fr.mayF f) ∧ Fr.sepL false l) (h3 : 1048576 < (Fr.putAll l).length) : putE l = 3 := by
  unfold putE; rw [if_pos h]
  by_cases h2 : 1024 < l.length
  · rw [if_pos h2]
  · rw [if_neg h2, if_pos h3]
theorem putE_ok {l : List Fr.Frame} (h : (∀ f ∈ l, Fr.mayF f) ∧ Fr.sepL false l) (h2 : ¬ 1024 < l.length) (h3 : ¬ 1048576 < (Fr.putAll l).length) : putE l = 0 := by unfold putE; rw [if_pos h, if_neg h2, if_neg h3]
theorem putO_err {l : List Fr.Frame} {e : Nat} (h : putE l = e) (he : e ≠ 0) : putO l = [] := by unfold putO; rw [if_neg (by omega)]
theorem putO_ok {l : List Fr.Frame} (h : putE l = 0) : putO l = Fr.putAll l := by unfold putO; rw [if_pos h]

/-- Does a frame of this kind ask for an answer? -/
def elicits (k : Nat) : Bool := decide (1 ≤ k) && decide (k ≤ 14) && decide (k ≠ 1) && decide (k ≠ 3) && decide (k ≠ 13)

/-- What is left of a slice behind k bytes. -/
def cutF (s : SL) (k : Nat) : SL := match s.a with
  | none => s
  | some _ => if k = s.cap then ⟨some ⟨s.g, s.off, none⟩, s.len - k, s.cap - k, s.g, s.off, s.b.drop k⟩ else ⟨some ⟨s.g, s.off + k, none⟩, s.len - k, s.cap - k, s.g, s.off + k, s.b.drop k⟩
/-- A slice whose place is told. -/
def SL.Told (s : SL) : Prop := ∀ p, s.a = some p → p = ⟨s.g, s.off, none⟩
theorem cutF_ok {w : World} {s : SL} (h : s.Ok w) (ht : s.Told) (k : Nat) (hk : k ≤ s.len) : (cutF s k).Ok w ∧ (cutF s k).Told ∧ (cutF s k).len = s.len - k ∧ (cutF s k).b = s.b.drop k ∧ (cutF s k).g = s.g := by
  unfold cutF
  cases ha : s.a with
  | none =>
    have h0 := (h.nil ha).1
    have hb := h.hb
    have e : s.b = [] := List.eq_nil_of_length_eq_zero (by omega)
    exact ⟨h, ht, by show s.len = s.len - k; omega, by show s.b = s.b.drop k; rw [e]; simp, rfl⟩
  | some p =>
    have hc := h.hcap
    simp only
    split
    · rename_i e
      refine ⟨⟨?_, ?_, fun q => by simp at q, fun _ => rfl, fun q => ?_, fun j hj => ?_⟩, fun q hq => (Option.some.inj hq).symm, rfl, rfl, rfl⟩
      · show (s.b.drop k).length = s.len - k; rw [List.length_drop, h.hb]
      · show s.len - k ≤ s.cap - k; omega
      · have : 0 < s.len - k := q; omega
      · have : j < s.len - k := hj; omega
    · refine ⟨⟨?_, ?_, fun q => by simp at q, fun _ => rfl, fun q => ?_, fun j hj => ?_⟩, fun q hq => (Option.some.inj hq).symm, rfl, rfl, rfl⟩
      · show (s.b.drop k).length = s.len - k; rw [List.length_drop, h.hb]
      · show s.len - k ≤ s.cap - k; omega
      · have : 0 < s.len - k := q
        exact h.lt (by omega)
      · have hj' : j < s.len - k := hj
        have := h.cell (k + j) (by omega)
        show w.cell? ⟨s.g, s.off + k + j, none⟩ = some (.int .u8 (v8 (gb (s.b.drop k) j)))
        rw [Nat.add_assoc, this]
        unfold gb
        rw [List.getElem?_drop]
theorem run_cutF {P : Program} {a : Act} {o : Oper} (t e : TypeId) (x lo : Operand) (s : SL) (n : Nat) (ht : s.Told) (hnil : s.a = none → s.len = 0 ∧ s.cap = 0) (ho : o.op = .slice t x (some lo) none none) (hx : a.eval x = .slice s.a s.len s.cap) (hh : a.eval lo = .int .i64 (n : Int)) (hu : P.underlying t = some (.slice e)) (hi1 : (P.info? e).map (·.size) = some 1) (hn : n ≤ s.len) (W : World) :
    (execOp a.eval o).run P W = .ok (.value (.slice (cutF s n).a (cutF s n).len (cutF s n).cap)) W := by
  have hsz : (sizeOf e).run P W = .ok 1 W := by
    cases hq : P.info? e with
    | none => simp [hq] at hi1
    | some i =>
      have : i.size = 1 := by simpa [hq] using hi1
      simp [sizeOf, typeInfo, hq, this]
  cases ha : s.a with
  | none =>
    obtain ⟨h1, h2⟩ := hnil ha
    have h3 : n = 0 := by omega
    have hd : cutF s n = s := by unfold cutF; rw [ha]
    rw [hd, ha, h1, h2]
    rw [ha, h1, h2] at hx
    subst h3
    unfold execOp
    simp [ho, hx, hh, Instr.sliceAt, Instr.slice, Instr.sliceBounds, Instr.sliceBound, asIntOf, run_underlying hu, hsz]
  | some p =>
    have hp := ht p ha
    rw [ha, hp] at hx
    unfold execOp
    by_cases e' : n = s.cap
    · have hd : cutF s n = ⟨some ⟨s.g, s.off, none⟩, s.len - n, s.cap - n, s.g, s.off, s.b.drop n⟩ := by unfold cutF; rw [ha]; simp only; rw [if_pos e']
      simp [ho, hx, hh, hd, Instr.sliceAt, Instr.slice, Instr.sliceBounds, Instr.sliceBound, asIntOf, run_underlying hu, hsz, hn, e'.symm]
    · have hd : cutF s n = ⟨some ⟨s.g, s.off + n, none⟩, s.len - n, s.cap - n, s.g, s.off + n, s.b.drop n⟩ := by unfold cutF; rw [ha]; simp only; rw [if_neg e']
      simp [ho, hx, hh, hd, Instr.sliceAt, Instr.slice, Instr.sliceBounds, Instr.sliceBound, asIntOf, run_underlying hu, hsz, hn, Addr.add_mid, show ¬ s.cap = n from fun q => e' q.symm]
theorem value_wp {P : Program} {a : Act} {o : Oper} {ops : Array Oper} {rest : List Oper} {w : World} {Q : Exit → Act → World → Prop} (hgd : o.guard = none) (v : Value) (he : (execOp a.eval o).run P w = .ok (.value v) w) (h : wpList P ops Q rest (a.put o.dst v) w) : wpList P ops Q (o :: rest) a w :=
  wpList_plain hgd fun _ hK => by
    unfold Oper.wp
    rw [he]
    exact hK _ _ h
/-- What reading a number brings about. -/
def rdN (b : List By) (e : Nat) : Nat × List By × Nat := if e = 0 then (match Fr.getN b with | none => (0, b, 4) | some (n, k) => (n, b.drop k, 0)) else (0, b, e)
theorem grown_refl (w : World) (r : Option Nat) : w.grownBy w r := ⟨rfl, rfl, rfl, Nat.le_refl _, fun _ _ _ => rfl⟩
theorem grown_set {w w' : World} {g j : Nat} {v : Value} (h : w.grownBy w' (some g)) : w.grownBy (w'.setCell ⟨g, j, none⟩ v) (some g) :=
  ⟨h.os, h.tape, h.output, by simp [World.setCell]; exact h.size, fun k hk hne => (Below.heap_setCell _ _ _ _ (fun e => hne (by rw [e]))).trans (h.block k hk hne)⟩
theorem SL.Ok.apart {w w' : World} {s : SL} {g : Nat} (h : s.Ok w) (hg : w.grownBy w' (some g)) (hne : 0 < s.len → s.g ≠ g) : s.Ok w' := h.same (fun p => hg.block _ (h.lt p) (fun e => hne p (Option.some.inj e))) hg.size

theorem run_cutU {P : Program} {a : Act} {o : Oper} (t e : TypeId) (x lo : Operand) (s : SL) (n : Nat) (ht : s.Told) (hnil : s.a = none → s.len = 0 ∧ s.cap = 0) (ho : o.op = .slice t x (some lo) none none) (hx : a.eval x = .slice s.a s.len s.cap) (hh : a.eval lo = .int .u64 (n : Int)) (hu : P.underlying t = some (.slice e)) (hi1 : (P.info? e).map (·.size) = some 1) (hn : n ≤ s.len) (W : World) :
    (execOp a.eval o).run P W = .ok (.value (.slice (cutF s n).a (cutF s n).len (cutF s n).cap)) W := by
  have hsz : (sizeOf e).run P W = .ok 1 W := by
    cases hq : P.info? e with
    | none => simp [hq] at hi1
    | some i =>
      have : i.size = 1 := by simpa [hq] using hi1
      simp [sizeOf, typeInfo, hq, this]
  cases ha : s.a with
  | none =>
    obtain ⟨h1, h2⟩ := hnil ha
    have h3 : n = 0 := by omega
    have hd : cutF s n = s := by unfold cutF; rw [ha]
    rw [hd, ha, h1, h2]
    rw [ha, h1, h2] at hx
    subst h3
    unfold execOp
    simp [ho, hx, hh, Instr.sliceAt, Instr.slice, Instr.sliceBounds, Instr.sliceBound, asIntOf, run_underlying hu, hsz]
  | some p =>
    have hp := ht p ha
    rw [ha, hp] at hx
    unfold execOp
    by_cases e' : n = s.cap
    · have hd : cutF s n = ⟨some ⟨s.g, s.off, none⟩, s.len - n, s.cap - n, s.g, s.off, s.b.drop n⟩ := by unfold cutF; rw [ha]; simp only; rw [if_pos e']
      simp [ho, hx, hh, hd, Instr.sliceAt, Instr.slice, Instr.sliceBounds, Instr.sliceBound, asIntOf, run_underlying hu, hsz, hn, e'.symm]
    · have hd : cutF s n = ⟨some ⟨s.g, s.off + n, none⟩, s.len - n, s.cap - n, s.g, s.off + n, s.b.drop n⟩ := by unfold cutF; rw [ha]; simp only; rw [if_neg e']
      simp [ho, hx, hh, hd, Instr.sliceAt, Instr.slice, Instr.sliceBounds, Instr.sliceBound, asIntOf, run_underlying hu, hsz, hn, Addr.add_mid, show ¬ s.cap = n from fun q => e' q.symm]
def headF (s : SL) (n : Nat) : SL := ⟨s.a, n, s.cap, s.g, s.off, s.b.take n⟩
theorem headF_ok {w : World} {s : SL} (h : s.Ok w) (n : Nat) (hn : n ≤ s.len) : (headF s n).Ok w :=
  ⟨by show (s.b.take n).length = n; rw [List.length_take, h.hb]; omega, Nat.le_trans hn h.hcap, fun e => ⟨by have := (h.nil e).1; show n = 0; omega, (h.nil e).2⟩, fun p => h.at_ (Nat.lt_of_lt_of_le p hn), fun p => h.lt (Nat.lt_of_lt_of_le p hn), fun j hj => by
    have hj' : j < n := hj
    refine (h.cell j (by omega)).trans ?_
    show _ = some (Value.int .u8 (v8 (gb (s.b.take n) j)))
    unfold gb
    rw [List.getElem?_take, if_pos hj']⟩
theorem run_headU {P : Program} {a : Act} {o : Oper} (t e : TypeId) (x hi : Operand) (s : SL) (n : Nat) (ht : s.Told) (hnil : s.a = none → s.len = 0 ∧ s.cap = 0) (hc : s.len ≤ s.cap) (ho : o.op = .slice t x none (some hi) none) (hx : a.eval x = .slice s.a s.len s.cap) (hh : a.eval hi = .int .u64 (n : Int)) (hu : P.underlying t = some (.slice e)) (hi1 : (P.info? e).map (·.size) = some 1) (hn : n ≤ s.len) (W : World) :
    (execOp a.eval o).run P W = .ok (.value (.slice (headF s n).a (headF s n).len (headF s n).cap)) W := by
  have hsz : (sizeOf e).run P W = .ok 1 W := by
    cases hq : P.info? e with
    | none => simp [hq] at hi1
    | some i =>
      have : i.size = 1 := by simpa [hq] using hi1
      simp [sizeOf, typeInfo, hq, this]
  have hnc : n ≤ s.cap := Nat.le_trans hn hc
  show _ = Result.ok (Next.value (.slice s.a n s.cap)) W
  cases ha : s.a with
  | none =>
    obtain ⟨h1, h2⟩ := hnil ha
    have h3 : n = 0 := by omega
    rw [ha, h1, h2] at hx
    subst h3
    rw [h2]
    unfold execOp
    simp [ho, hx, hh, Instr.sliceAt, Instr.slice, Instr.sliceBounds, Instr.sliceBound, asIntOf, run_underlying hu, hsz]
  | some p =>
    have hp := ht p ha
    rw [ha, hp] at hx
    rw [hp]
    unfold execOp
    by_cases e' : s.cap = 0
    · simp [ho, hx, hh, Instr.sliceAt, Instr.slice, Instr.sliceBounds, Instr.sliceBound, asIntOf, run_underlying hu, hsz, e']
      omega
    · simp [ho, hx, hh, Instr.sliceAt, Instr.slice, Instr.sliceBounds, Instr.sliceBound, asIntOf, run_underlying hu, hsz, hnc, e', Addr.add_mid]

theorem grown_trans {a b c : World} {g : Nat} (h : a.grownBy b (some g)) (k : b.grownBy c (some g)) : a.grownBy c (some g) :=
  ⟨k.os.trans h.os, k.tape.trans h.tape, k.output.trans h.output, Nat.le_trans h.size k.size, fun i hi hn => (k.block i (Nat.lt_of_lt_of_le hi h.size) hn).trans (h.block i hi hn)⟩
end Go.Proofs.YtaighdppemnglaaGreatDoor

/-! frame.isKind, frame.finBit, frame.Eliciting. -/
namespace Go.Proofs.YtaighdppemnglaaGreatDoor
open Go Go.RowKit

/-- Is a number a kind's? -/
def isK (k : Nat) : Bool := decide (k ≠ 0) && decide (k < 15)
theorem fr_kind (k : Nat) (w : World) (hk : k < 256) :
    Calls Tryz.prog 29 #[.int .u8 (k : Int)] w fun e w' => e = .returned (.bool (isK k)) ∧ w' = w := by
  have hwr : IntKind.i64.wrap (k : Int) = (k : Int) := by rw [IntKind.wrap_i64]; omega
  by_cases h0 : k = 0
  · have f1 : ((k : Int) != 0) = false := by simp; omega
    have HE := veil (show isK k = false by unfold isK; simp [h0])
    clear h0
    go_enter Tryz.func29, Tryz.ntmps29
    go_wp2_with fail
    go_ret
    exact ⟨by rw [HE.out]; rfl, rfl⟩
  · have f1 : ((k : Int) != 0) = true := by simp; omega
    have HE := veil (show isK k = decide ((k : Int) < 15) by unfold isK; simp [h0]; omega)
    clear h0
    go_enter Tryz.func29, Tryz.ntmps29
    go_wp2_with fail
    go_ret
    exact ⟨by rw [HE.out]; rfl, rfl⟩

set_option maxHeartbeats 1000000 in
theorem fr_fin (f : FrM) (w : World) :
    Calls Tryz.prog 80 #[.agg f.cells] w fun e w' => e = .returned (.int .u64 (if f.fin then 1 else 0)) ∧ Below w.heap.size w w' := by
  obtain ⟨k, st, of, li, co, fi, da, ra⟩ := f
  have r0 : Row (w.alloc (.cells (FrM.mk k st of li co fi da ra).cells 37)) w.heap.size 37 (FrM.mk k st of li co fi da ra).cells := Row.new _ _ _
  have b0 : Below w.heap.size w (w.alloc (.cells (FrM.mk k st of li co fi da ra).cells 37)) := (Below.refl _ w).alloc (Nat.le_refl _) _
  have c5 := (fr_cells r0).2.2.2.2.2.1
  simp only at c5
  have HB0 := veil b0
  clear r0 b0
  cases fi
  · go_enter Tryz.func80, Tryz.ntmps80
    go_wp2_with fail
    go_ret
    exact ⟨rfl, HB0.out⟩
  · go_enter Tryz.func80, Tryz.ntmps80
    go_wp2_with fail
    go_ret
    exact ⟨rfl, HB0.out⟩

theorem isK_elicits (k : Nat) (h1 : k ≠ 1) (h3 : k ≠ 3) (h13 : k ≠ 13) : isK k = elicits k := by
  unfold isK elicits
  by_cases h0 : k = 0
  · simp [h0]
  · by_cases h : k < 15
    · simp [h0, h, h1, h3, h13]; omega
    · simp [h0, h]; omega
set_option maxHeartbeats 1000000 in
theorem fr_eliciting (f : FrM) (w : World) (hk : f.kind < 256) :
    Calls Tryz.prog 12 #[.agg f.cells] w fun e w' => e = .returned (.bool (elicits f.kind)) ∧ Below w.heap.size w w' := by
  obtain ⟨k, st, of, li, co, fi, da, ra⟩ := f
  have r0 : Row (w.alloc (.cells (FrM.mk k st of li co fi da ra).cells 37)) w.heap.size 37 (FrM.mk k st of li co fi da ra).cells := Row.new _ _ _
  have b0 : Below w.heap.size w (w.alloc (.cells (FrM.mk k st of li co fi da ra).cells 37)) := (Below.refl _ w).alloc (Nat.le_refl _) _
  have c0 := (fr_cells r0).1
  simp only at c0 hk
  have HB0 := veil b0
  clear r0 b0
  by_cases h1 : k = 1
  · have f1 : ((k : Int) == 1) = true := by simp; omega
    have HE := veil (show elicits k = false by unfold elicits; simp [h1])
    clear h1
    go_enter Tryz.func12, Tryz.ntmps12
    go_wp2_with fail
    go_ret
    exact ⟨by rw [HE.out]; rfl, HB0.out⟩
  have f1 : ((k : Int) == 1) = false := by simp; omega
  by_cases h3 : k = 3
  · have f3 : ((k : Int) == 3) = true := by simp; omega
    have HE := veil (show elicits k = false by unfold elicits; simp [h3])
    clear h1 h3
    go_enter Tryz.func12, Tryz.ntmps12
    go_wp2_with fail
    go_ret
    exact ⟨by rw [HE.out]; rfl, HB0.out⟩
  have f3 : ((k : Int) == 3) = false := by simp; omega
  by_cases h13 : k = 13
  · have f13 : ((k : Int) == 13) = true := by simp; omega
    have HE := veil (show elicits k = false by unfold elicits; simp [h13])
    clear h1 h3 h13
    go_enter Tryz.func12, Tryz.ntmps12
    go_wp2_with fail
    go_ret
    exact ⟨by rw [HE.out]; rfl, HB0.out⟩
  have f13 : ((k : Int) == 13) = false := by simp; omega
  have HE := veil (isK_elicits k h1 h3 h13)
  clear h1 h3 h13
  go_enter Tryz.func12, Tryz.ntmps12
  go_wp2_with fail
  refine (fr_kind k _ hk).mono ?_
  rintro e1 w1 ⟨rfl, rfl⟩
  go_wp2_with fail
  go_ret
  exact ⟨by rw [← HE.out]; rfl, HB0.out⟩
end Go.Proofs.YtaighdppemnglaaGreatDoor

/-! frame.numbers: numbers as bytes, one behind the other. -/
namespace Go.Proofs.YtaighdppemnglaaGreatDoor
open Go Go.RowKit

def gu (l : List Nat) (j : Nat) : Nat := l[j]?.getD 0
/-- A slice of numbers, and what lies in it. -/
structure NL where
  a : Option Addr
  len : Nat
  cap : Nat
  g : Nat
  off : Nat
  l : List Nat
structure NL.Ok (w : World) (s : NL) : Prop where
  hb : s.l.length = s.len
  hcap : s.len ≤ s.cap
  at_ : 0 < s.len → s.a = some ⟨s.g, s.off, none⟩
  lt : 0 < s.len → s.g < w.heap.size
  cell : ∀ j : Nat, j < s.len → w.cell? ⟨s.g, s.off + j, none⟩ = some (.int .u64 (gu s.l j : Int))
theorem NL.Ok.below {w w' : World} {s : NL} (h : s.Ok w) (hb : Below w.heap.size w w') : s.Ok w' :=
  ⟨h.hb, h.hcap, h.at_, fun p => Nat.lt_of_lt_of_le (h.lt p) hb.size, fun j hj => (hb.cell (p := ⟨s.g, s.off + j, none⟩) (h.lt (by omega))).trans (h.cell j hj)⟩
/-- Numbers' bytes. -/
def numsL : List Nat → List By
  | [] => []
  | n :: r => Fr.numL n ++ numsL r
theorem numsL_append (a b : List Nat) : numsL (a ++ b) = numsL a ++ numsL b := by
  induction a with
  | nil => rfl
  | cons n r ih => rw [List.cons_append, numsL, numsL, ih, List.append_assoc]
theorem numsL_len (a : List Nat) : (numsL a).length ≤ 8 * a.length := by
  induction a with
  | nil => simp [numsL]
  | cons n r ih =>
    have := Fr.szN_le n
    rw [numsL, List.length_append, Fr.numL_length, List.length_cons]
    omega
theorem numsL_take (l : List Nat) (k : Nat) (hk : k < l.length) : numsL (l.take (k + 1)) = numsL (l.take k) ++ Fr.numL (gu l k) := by
  have e : gu l k = l[k] := by unfold gu; rw [List.getElem?_eq_getElem hk]; rfl
  rw [List.take_succ_eq_append_getElem hk, numsL_append, e]
  simp [numsL]

set_option maxRecDepth 20000 in
set_option maxHeartbeats 4000000 in
theorem fr_nums (s : NL) (w : World) (hs : s.Ok w) (hl : s.len ≤ 1000) (hm : ∀ j, j < s.len → gu s.l j ≤ 4611686018427387903) (hL : Lens w) :
    Calls Tryz.prog 77 #[.slice s.a s.len s.cap] w fun e w' => ∃ v, e = .returned v ∧ RowK w.heap.size (numsL s.l) w' v ∧ Below w.heap.size w w' := by
  obtain ⟨i0, hi, hz0, hz1, hz2⟩ := info_parts Tryz.infoByteV
  obtain ⟨a, len, cap, g, off, l⟩ := s
  have hll : l.length = len := hs.hb
  have HP := veil hs
  have HM := veil hm
  have HL := veil hll
  have HLn := veil hL
  clear hs hm hL hll
  simp only at hl
  show Calls _ _ _ _ fun e w' => ∃ v, e = .returned v ∧ RowK w.heap.size (numsL l) w' v ∧ Below w.heap.size w w'
  go_enter Tryz.func77, Tryz.ntmps77
  go_wp2_with fail
  go_loopw [3, 10] (fun v i wr => ∃ k : Nat, k ≤ len ∧ i = .int .i64 k ∧ RowK w.heap.size (numsL (l.take k)) wr v ∧ Below w.heap.size w wr)
    (fun _ i _ => len - (intOf i).toNat)
  case atStart => exact ⟨0, Nat.zero_le _, rfl, World.ownsRow_nil _ _ _ _, Below.refl _ _⟩
  case round =>
    obtain ⟨k, hk, rfl, hrow, hbel⟩ := hrel
    by_cases hlt : k < len
    · have e1 : a = some ⟨g, off, none⟩ := HP.out.at_ (show 0 < len by omega)
      subst e1
      have c1 := (HP.out.below hbel).cell k hlt
      have hn := HM.out k hlt
      have hT := numsL_take l k (by rw [HL.out]; exact hlt)
      have hlen := numsL_len (l.take k)
      rw [List.length_take] at hlen
      simp only at c1 hn
      obtain ⟨N, eN⟩ : ∃ N, N = gu l k := ⟨_, rfl⟩
      rw [← eN] at c1 hn hT
      obtain ⟨B, eB⟩ : ∃ B, B = numsL (l.take k) := ⟨_, rfl⟩
      rw [← eB] at hT hrow hlen
      have hBl : B.length ≤ 8000 := by omega
      have HT := veil hT
      have HRow := veil hrow
      have HB := veil hbel
      have HN := veil hn
      have hbs := hbel.size
      clear hT hrow hbel eB hlen eN hn
      go_wp2_with fail
      refine (var_put N wr HN.out (HLn.out.step HB.out)).mono ?_
      rintro e2 w2 ⟨rfl, ho2, hb2⟩
      obtain ⟨s2, hv2, hsl2, hsb2, hok2, _⟩ := SL.of_own ho2
      rw [← hv2]
      unfold SL.v
      have HB2 := veil (HB.out.trans (hb2.mono HB.out.size))
      have hz2s : w.heap.size ≤ w2.heap.size := HB2.out.size
      have HO2 := veil (own_below HRow.out hb2)
      have HOK := veil hok2
      have HSB := veil hsb2
      have hs8 := Fr.szN_le N
      have HSL := veil (hsl2.trans (Fr.numL_length N))
      have hle : B.length + s2.len ≤ 8388608 := by rw [hsl2, Fr.numL_length]; omega
      clear ho2 hb2 hv2 hsb2 hok2 hsl2 c1
      go_wp2_with (with_reducible (show wpList _ _ _ (⟨some 21, Op.call _, _, _, _, _⟩ :: _) _ _)
                   refine append_sl rfl _ _ 26 rfl w.heap.size i0 Tryz.underlying26 hi hz0 hz1 hz2 _ B.length B rfl HO2.out s2 HOK.out rfl hle hz2s ?_
                   intro v3 w3 hown3 hgrow3
                   have HK3 := veil (Keep.of_grown HO2.out hgrow3 hz2s)
                   have HO3 := veil (show RowK w.heap.size (numsL (l.take (k + 1))) w3 v3 by
                     unfold RowK
                     rw [HT.out, List.length_append, Fr.numL_length, ← HSB.out, ← HSL.out]
                     exact hown3)
                   clear hown3 hgrow3)
      go_roundw
      case rel => exact ⟨k + 1, by omega, by go_num, HO3.out, HB2.out.trans HK3.out.bel⟩
      case measure => simp [intOf]; omega
    · obtain rfl : len = k := by omega
      have HRow := veil (show RowK w.heap.size (numsL l) wr _ by rw [← List.take_of_length_le (show l.length ≤ len by rw [HL.out]; omega)]; exact hrow)
      have HB := veil hbel
      clear hrow hbel
      go_wp2_with fail
      go_ret
      exact ⟨_, rfl, HRow.out, HB.out⟩
end Go.Proofs.YtaighdppemnglaaGreatDoor
