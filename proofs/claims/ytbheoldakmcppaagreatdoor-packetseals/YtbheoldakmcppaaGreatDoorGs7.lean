/-
  Out of ChaSl, PlNumberOf, PlBytesOf, PlCleared, PlHeld, PlPart, PlParts, PlLeast.
-/
import Derived.Test.YtbheoldakmcppaaGreatDoorGs1
import Derived.Test.YtbheoldakmcppaaGreatDoorGs4
import Derived.Lib.AppendZeros
import Derived.WalkKit
import Derived.WalkSpells
import Derived.WalkLawsBesides
import Derived.Test.YtbheoldakmcppaaGreatDoorGs6
import Derived.BigRegion
import Derived.Test.YtbheoldakmcppaaGreatDoorRows
import Derived.Laws.CopyRow
import Derived.Laws.IdiomCopy
import Derived.BigRegionIn
import Derived.Test.YtbheoldakmcppaaGreatDoorGsHkIn
import Derived.OrdersIn

/-! Slices of bytes, as the walks ask them. Written by mkcha.py. -/
namespace Go.Proofs.YtbheoldakmcppaaGreatDoor
open Go Go.RowKit

/-- A slice of bytes, and what lies in it. -/
structure SL where
  a : Option Addr
  len : Nat
  cap : Nat
  g : Nat
  off : Nat
  b : List By
def SL.v (s : SL) : Value := .slice s.a s.len s.cap
structure SL.Ok (w : World) (s : SL) : Prop where
  hb : s.b.length = s.len
  hcap : s.len ≤ s.cap
  nil : s.a = none → s.len = 0 ∧ s.cap = 0
  at_ : 0 < s.len → s.a = some ⟨s.g, s.off, none⟩
  lt : 0 < s.len → s.g < w.heap.size
  cell : ∀ j : Nat, j < s.len → w.cell? ⟨s.g, s.off + j, none⟩ = some (.int .u8 (v8 (gb s.b j)))
theorem SL.Ok.same {w w' : World} {s : SL} (h : s.Ok w) (hs : 0 < s.len → w'.heap[s.g]? = w.heap[s.g]?) (hz : w.heap.size ≤ w'.heap.size) : s.Ok w' :=
  ⟨h.hb, h.hcap, h.nil, h.at_, fun p => Nat.lt_of_lt_of_le (h.lt p) hz, fun j hj => (World.cell?_of_block (a := ⟨s.g, s.off + j, none⟩) (hs (by omega))).trans (h.cell j hj)⟩
theorem SL.Ok.below {w w' : World} {s : SL} (h : s.Ok w) (hb : Below w.heap.size w w') : s.Ok w' := h.same (fun p => hb.block _ (h.lt p)) hb.size
theorem SL.Ok.below' {B : Nat} {w w' : World} {s : SL} (h : s.Ok w) (hb : Below B w w') (hB : 0 < s.len → s.g < B) : s.Ok w' := h.same (fun p => hb.block _ (hB p)) hb.size
theorem SL.Ok.alloc {w : World} {s : SL} (h : s.Ok w) (o : Obj) : s.Ok (w.alloc o) := h.below ((Below.refl _ w).alloc (Nat.le_refl _) o)

/-- A whole row of bytes, as a slice. -/
def rowS (g : Nat) (b : List By) : SL := ⟨some ⟨g, 0, none⟩, b.length, b.length, g, 0, b⟩
theorem rowS_ok {w : World} {g : Nat} {t : TypeId} {b : List By} (h : Row w g t (bs b)) : (rowS g b).Ok w :=
  ⟨rfl, Nat.le_refl _, fun e => by simp [rowS] at e, fun _ => rfl, fun _ => h.lt, fun j hj => by
    show w.cell? ⟨g, 0 + j, none⟩ = _
    rw [Nat.zero_add]; exact h.cellB hj⟩

/-- A row of the call's own, as a slice. -/
theorem SL.of_own {w : World} {base : Nat} {v : Value} {n : Nat} {xs : List By} (h : w.ownsRow base 5 1 v n (vb xs)) : ∃ s : SL, s.v = v ∧ s.len = n ∧ s.b = xs ∧ s.Ok w ∧ (0 < n → base ≤ s.g) := by
  have hl : xs.length = n := by have := h.1; rw [vb_length] at this; omega
  rcases h.2 with ⟨rfl, rfl⟩ | ⟨g, cap, cur, rfl, hg, hh, hn, _, _, _⟩
  · exact ⟨⟨none, 0, 0, 0, 0, xs⟩, rfl, rfl, rfl, ⟨hl, Nat.le_refl _, fun _ => ⟨rfl, rfl⟩, fun p => absurd p (Nat.lt_irrefl _), fun p => absurd p (Nat.lt_irrefl _), fun j hj => absurd hj (Nat.not_lt_zero _)⟩, fun p => absurd p (Nat.lt_irrefl _)⟩
  · refine ⟨⟨some ⟨g, 0, none⟩, n, cap, g, 0, xs⟩, rfl, rfl, rfl, ⟨hl, hn, fun e => (by simp at e), fun _ => rfl, fun _ => (Array.getElem?_eq_some_iff.1 hh).1, fun j hj => ?_⟩, fun _ => hg⟩
    have := h.cells (g := g) rfl j _ (vb_get xs j (by rw [hl]; exact hj))
    rw [add_off] at this
    rw [Nat.zero_add]
    exact this

section
variable {P : Program} {ops : Array Oper} {rest : List Oper} {o : Oper} {a : Act} {w : World} {Q : Exit → Act → World → Prop}
/-- What came in is appended to a row of the call's own. -/
theorem append_sl (hgd : o.guard = none) (s x : Operand) (t : TypeId) (ho : o.op = .call { callee := .builtin .append, args := #[s, x], argTypes := #[t, t] })
    (base : Nat) (i : TypeInfo) (ht : P.underlying t = some (.slice 5)) (hi : P.info? 5 = some i) (hz : i.zero = some (.int .u8 0)) (hsize : i.size = 1) (hby : i.bytes = 1)
    (v : Value) (n : Nat) (xs : List By) (hs : a.eval s = v) (hown : w.ownsRow base 5 1 v n (vb xs)) (q : SL) (hq : q.Ok w) (hx : a.eval x = .slice q.a q.len q.cap) (hl : n + q.len ≤ 8388608) (hbase : base ≤ w.heap.size)
    (h : ∀ v' w', w'.ownsRow base 5 1 v' (n + q.len) (vb (xs ++ q.b)) → w.grownBy w' v.ownBlock → wpList P ops Q rest (a.put o.dst v') w') : wpList P ops Q (o :: rest) a w := by
  obtain ⟨ad, len, cap, g, off, b⟩ := q
  cases ad with
  | none =>
    obtain ⟨h1, h2⟩ := hq.nil rfl
    simp only at h1 h2
    subst h1 h2
    have hb0 : b = [] := List.eq_nil_of_length_eq_zero hq.hb
    subst hb0
    refine wpList_append_own_none hgd s x t ho base 5 i 1 ht hi v n (vb xs) hs hown hx (h _ _ ?_ ⟨rfl, rfl, rfl, Nat.le_refl _, fun _ _ _ => rfl⟩)
    simpa using hown
  | some ad =>
    have hb : b.length = len := hq.hb
    refine wpList_append_own w hgd s x t ho base 5 i (.int .u8 0) 1 1 ht hi hz hsize hby rfl (by decide) v n (vb xs) hs hown ad len cap (vb b) hx (by rw [vb_length, hb, Nat.mul_one]) ?_ (vb_one b) (by unfold maxLen; simp only at hl; omega) (by simp only at hl; omega) hbase ?_
    · intro j u hj
      obtain ⟨h1, rfl⟩ := vb_get' b j u hj
      have e := hq.at_ (show 0 < len by omega)
      simp only at e
      injection e with e
      subst e
      rw [add_at]
      exact hq.cell j (show j < len by omega)
    · intro v' w' h1 h2 _
      rw [← vb_append] at h1
      exact h v' w' h1 h2
end
theorem own_low {w : World} {B B' n : Nat} {e : TypeId} {v : Value} {xs : List Value} (h : w.ownsRow B e 1 v n xs) (hB : B' ≤ B) : w.ownsRow B' e 1 v n xs := by
  obtain ⟨h1, h2⟩ := h
  refine ⟨h1, ?_⟩
  rcases h2 with h2 | ⟨g, c, cur, h3, h4, h5⟩
  · exact .inl h2
  · exact .inr ⟨g, c, cur, h3, Nat.le_trans hB h4, h5⟩
theorem own_below {w w' : World} {B n : Nat} {e : TypeId} {v : Value} {xs : List Value} (h : w.ownsRow B e 1 v n xs) (hb : Below w.heap.size w w') : w'.ownsRow B e 1 v n xs :=
  h.kept (row := none) ⟨hb.os, hb.tape, hb.output, hb.size, fun k hk _ => hb.block k hk⟩ (Classical.em _)
def rowN (g n : Nat) (b : List By) : SL := ⟨some ⟨g, 0, none⟩, n, n, g, 0, b⟩
theorem rowN_ok {w : World} {g n : Nat} {t : TypeId} {b : List By} (h : Row w g t (bs b)) (hn : b.length = n) : (rowN g n b).Ok w := by
  subst hn
  exact rowS_ok h
section
variable {P : Program} {a : Act} {w : World}
theorem exec_append {o : Oper} (s x : Operand) (t1 t2 : TypeId) (ho : o.op = .call { callee := .builtin .append, args := #[s, x], argTypes := #[t1, t2] }) (vs vx : Value) (hs : a.eval s = vs) (hx : a.eval x = vx)
    (v : Value) (w' : World) (hr : (Builtin.append_ #[t1, t2] o.type #[vs, vx]).run P w = .ok v w') : (execOp a.eval o).run P w = .ok (.value v) w' := by
  unfold execOp
  simp only [ho, resolve, invoke, builtin, Sem.run_bind, Sem.run_pure, Result.andThen_ok, List.map_toArray, List.map_cons, List.map_nil, hs, hx, hr]
end
end Go.Proofs.YtbheoldakmcppaaGreatDoor

/-! What poly.numberOf answers. -/
namespace Go.Proofs.YtbheoldakmcppaaGreatDoor
open Go Go.RowKit

set_option maxRecDepth 20000 in
set_option maxHeartbeats 1000000 in
theorem numberOf_any (s : SL) (w : World) (hs : s.Ok w) (hlen : s.len ≤ 17) (hv : leN s.b < 1361129467683753853853498429727072845824) :
    Calls Tryz.prog 148 #[.slice s.a s.len s.cap] w fun e w' => ∃ ys, e = .returned (.agg (ns ys)) ∧ Sm ys ∧ V5 ys = leN s.b ∧ Below w.heap.size w w' := by
  obtain ⟨a, len, cap, g, off, b⟩ := s
  simp only at hlen hv ⊢
  have HOk := veil hs
  have HV := veil hv
  have hlen' : (len : Int) ≤ 17 := by omega
  have hat := veil hs.at_
  have hlt := veil hs.lt
  clear hs hv
  go_enter Tryz.func148, Tryz.ntmps148
  go_wp2
  go_loopw [8] (fun iv wr => ∃ (k : Nat) (zs : List Nat), k ≤ len ∧ iv = .int .i64 k ∧ Hid (zs.length = 5) ∧ Hid (∀ m, gn zs m ≤ k * 4294967296) ∧ Hid (V5 zs = leK b k) ∧ Row wr w.heap.size 215 (ns (List.replicate 5 0)) ∧ Row wr (w.heap.size + 1) 215 (ns zs) ∧ Below w.heap.size w wr)
    (fun iv _ => len - (intOf iv).toNat)
  case atStart =>
    refine ⟨0, List.replicate 5 0, by omega, rfl, rfl, fun m => ?_, ?_, (Row.new _ _ (ns (List.replicate 5 0))).alloc _, Row.new1 _ _ _ (ns (List.replicate 5 0)), ((Below.refl _ w).alloc (Nat.le_refl _) _).alloc (by simp) _⟩
    · unfold gn
      rw [List.getElem?_replicate]
      split <;> simp
    · show _ = _
      simp [leK, V5, gn]
  case round =>
    obtain ⟨k, zs, hk, rfl, HL, HM, HE, r0, r1, hbel⟩ := hrel
    by_cases hlt2 : k < len
    · have hdk : decide ((k : Int) < (len : Int)) = true := by simp; omega
      have hcell := (HOk.out.below hbel).cell k hlt2
      have e := hat.out (show 0 < len by omega)
      simp only at hcell e
      subst e
      obtain ⟨x, hxe⟩ : ∃ x, x = (gb b k).toNat := ⟨_, rfl⟩
      have hx8 : x < 256 := by rw [hxe]; exact (gb b k).isLt
      rw [show v8 (gb b k) = (x : Int) by rw [hxe]; rfl] at hcell
      have HXE := veil hxe
      clear hxe
      have cz := r1.cellN (j := 8 * k / 26) (by rw [HL.out]; omega)
      have fz := r1.frozen (8 * k / 26)
      obtain ⟨v, hve⟩ : ∃ v, v = gn zs (8 * k / 26) := ⟨_, rfl⟩
      rw [← hve] at cz
      have HVB : Hid (v ≤ k * 4294967296) := show _ ≤ _ by rw [hve]; exact HM.out _
      have hvb : v ≤ 73014444032 := by have := HVB.out; omega
      have HVE := veil hve
      clear hve
      obtain ⟨y, hye⟩ : ∃ y, y = x * 2 ^ (8 * k % 26) := ⟨_, rfl⟩
      have hyb : y ≤ 4294967296 := by
        rw [hye]
        exact Nat.le_trans (Nat.mul_le_mul (Nat.le_of_lt hx8) (pow8_le k)) (by decide)
      have hp : (0 : Int) ≤ (k : Int) ∧ (k : Int) < (len : Int) := by omega
      have hw8 : IntKind.u64.wrap (x : Int) = (x : Int) := by rw [IntKind.wrap_u64]; omega
      have HW : Hid (IntKind.u64.wrap ((v : Int) + IntKind.u64.wrap ((x : Int) * 2 ^ (8 * k % 26))) = ((v + y : Nat) : Int)) := show _ = _ by
        rw [show (x : Int) * 2 ^ (8 * k % 26) = (y : Int) by rw [hye]; simp, IntKind.wrap_u64, IntKind.wrap_u64]
        omega
      have HN : Hid (V5 (zs.set (8 * k / 26) (v + y)) = leK b (k + 1)) := show _ = _ from num_step zs HL.out b k (by omega) HE.out v y HVE.out (by rw [hye, HXE.out])
      have HM' : Hid (∀ m, gn (zs.set (8 * k / 26) (v + y)) m ≤ (k + 1) * 4294967296) := show ∀ m, gn (zs.set (8 * k / 26) (v + y)) m ≤ (k + 1) * 4294967296 from fun m => by
        rw [gn_set]
        split
        · rw [Nat.add_mul, Nat.one_mul]
          exact Nat.add_le_add HVB.out hyb
        · exact Nat.le_trans (HM.out m) (Nat.mul_le_mul_right _ (by omega))
      clear hye
      go_wp2
      go_region
      go_wp2
      go_roundw
      case rel =>
        rw [HW.out]
        have q1 := r1.set (8 * k / 26) (.int .u64 ((v + y : Nat) : Int))
        rw [ns_set] at q1
        refine ⟨k + 1, _, by omega, by go_num, ?_, HM', HN, r0.other (by show w.heap.size ≠ w.heap.size + 1; omega) _, q1, Below.drew (hbel.setCell (p := ⟨w.heap.size + 1, 8 * k / 26, none⟩) (by show w.heap.size ≤ w.heap.size + 1; omega) _)⟩
        show List.length _ = 5
        rw [List.length_set]; exact HL.out
      case measure => simp [intOf]; omega
    · have hdk : decide ((k : Int) < (len : Int)) = false := by simp; omega
      rw [show k = len by omega] at HE HM
      have HX : Hid (∀ m, gn zs m < 4611686018427387904) := show ∀ m, gn zs m < 4611686018427387904 from fun m => Nat.lt_of_le_of_lt (HM.out m) (by omega)
      have HE2 : Hid (V5 zs = leN b) := show _ = _ by
        rw [HE.out]; unfold leN; rw [show b.length = len from HOk.out.hb]
      go_wp2_with (with_reducible (show wpList _ _ _ (⟨_, Op.load 215 _, _, _, _, _⟩ :: _) _ _)
                   refine load_row rfl 215 _ rfl (w.heap.size + 1) rfl _ _ r1 5 23 Tryz.underlying215 (by kernel_rfl) (by rw [ns_size, HL.out]) ?_)
      refine (carried_any zs HL.out HX.out wr).mono ?_
      rintro e1 w1 ⟨ys, rfl, hsm, hcy, hb1⟩
      have HS := veil hsm
      have HC := veil hcy
      have hs1 := hbel.size
      have q0 := r0.below hb1 r0.lt
      have bel2 : Below w.heap.size w w1 := hbel.trans (hb1.mono hs1)
      clear hsm hcy
      go_wp2_with (with_reducible (show wpList _ _ _ (⟨_, Op.store 215 _ _, _, _, _, _⟩ :: _) _ _)
                   refine store_row rfl 215 _ _ rfl w.heap.size (ns ys) rfl rfl _ _ q0 5 (by kernel_rfl) (by rw [ns_size, List.length_replicate]) (by rw [ns_size, HS.out.len]) (ns_one _) ?_)
      refine bodyPost_ret (result_row rfl _ _ w.heap.size _ _ (q0.put _) 5 23 rfl Tryz.underlying215 (by kernel_rfl) (by rw [ns_size, HS.out.len])) rfl ⟨ys, rfl, HS.out, by rw [HC.out.eq (by rw [HE2.out]; exact HV.out), HE2.out], bSetRow bel2 (Nat.le_refl _) _⟩
end Go.Proofs.YtbheoldakmcppaaGreatDoor

/-! What poly.bytesOf answers. -/
namespace Go.Proofs.YtbheoldakmcppaaGreatDoor
open Go Go.RowKit

/-- The i-th byte of a number. -/
def byteAt (v i : Nat) : By := BitVec.ofNat 8 (v / 256 ^ i)
/-- The sixteen lowest bytes of a number. -/
def by16 (v : Nat) : List By := (List.range 16).map (byteAt v)
theorem by16_length (v : Nat) : (by16 v).length = 16 := by simp [by16]
theorem by16_of {zs : List By} (h : zs.length = 16) {v : Nat} (hz : ∀ i, i < 16 → gb zs i = byteAt v i) : zs = by16 v := by
  apply List.ext_getElem (by rw [h, by16_length])
  intro i h1 h2
  have := hz i (by omega)
  unfold gb at this
  rw [List.getElem?_eq_getElem h1] at this
  simp only [Option.getD_some] at this
  rw [this]
  simp [by16]
theorem gb_set {zs : List By} {i j : Nat} (x : By) (hi : i < zs.length) : gb (zs.set i x) j = if i = j then x else gb zs j := by
  unfold gb
  rw [List.getElem?_set]
  by_cases h : i = j
  · subst h
    simp [hi]
  · simp [h]
/-- The byte, by the words in which it lies. -/
theorem byte_two {a : List Nat} (ha : Sm a) (k : Nat) (hk : k < 16) (h4 : 8 * k / 26 + 1 < 5) : (gn a (8 * k / 26) / 2 ^ (8 * k % 26) + gn a (8 * k / 26 + 1) * 2 ^ (26 - 8 * k % 26)) % 256 = V5 a / 256 ^ k % 256 := by
  have b0 := ha.lt 0
  have b1 := ha.lt 1
  have b2 := ha.lt 2
  have b3 := ha.lt 3
  have b4 := ha.lt 4
  unfold V5
  rcases (show k = 0 ∨ k = 1 ∨ k = 2 ∨ k = 3 ∨ k = 4 ∨ k = 5 ∨ k = 6 ∨ k = 7 ∨ k = 8 ∨ k = 9 ∨ k = 10 ∨ k = 11 ∨ k = 12 by omega) with rfl | rfl | rfl | rfl | rfl | rfl | rfl | rfl | rfl | rfl | rfl | rfl | rfl
  all_goals
    simp only [Nat.reduceMul, Nat.reduceDiv, Nat.reduceMod, Nat.reducePow, Nat.reduceAdd, Nat.reduceSub]
    omega
theorem byte_one {a : List Nat} (ha : Sm a) (k : Nat) (hk : k < 16) (h4 : ¬ 8 * k / 26 + 1 < 5) : gn a (8 * k / 26) / 2 ^ (8 * k % 26) % 256 = V5 a / 256 ^ k % 256 := by
  have b0 := ha.lt 0
  have b1 := ha.lt 1
  have b2 := ha.lt 2
  have b3 := ha.lt 3
  have b4 := ha.lt 4
  unfold V5
  rcases (show k = 13 ∨ k = 14 ∨ k = 15 by omega) with rfl | rfl | rfl
  all_goals
    simp only [Nat.reduceMul, Nat.reduceDiv, Nat.reduceMod, Nat.reducePow]
    omega
theorem v8_byteAt (v i : Nat) : v8 (byteAt v i) = ((v / 256 ^ i % 256 : Nat) : Int) := by
  unfold v8 byteAt
  rw [BitVec.toNat_ofNat]
/-- Two words that do not meet. -/
theorem or_apart (x y : Nat) (t : Nat) (hx : x < 2 ^ t) (hxb : x < 18446744073709551616) (hyb : y * 2 ^ t < 18446744073709551616) : bits .or .u64 (x : Int) ((y * 2 ^ t : Nat) : Int) = ((x + y * 2 ^ t : Nat) : Int) := by
  rw [u64_or _ _ (by omega) (by omega) (by omega) (by omega), Int.toNat_natCast, Int.toNat_natCast, Nat.or_comm, Nat.mul_comm y, ← Nat.two_pow_add_eq_or_of_lt hx, Nat.add_comm]

set_option maxRecDepth 20000 in
set_option maxHeartbeats 1000000 in
theorem bytesOf_any (a : List Nat) (ha : Sm a) (w : World) :
    Calls Tryz.prog 152 #[.agg (ns a)] w fun e w' => e = .returned (.agg (bs (by16 (V5 a)))) ∧ Below w.heap.size w w' := by
  have HA := veil ha
  clear ha
  go_enter Tryz.func152, Tryz.ntmps152
  go_wp2
  go_loopw [8] (fun iv wr => ∃ (k : Nat) (zs : List By), k ≤ 16 ∧ iv = .int .i64 k ∧ Hid (zs.length = 16) ∧ Hid (∀ i, i < k → gb zs i = byteAt (V5 a) i) ∧ Row wr w.heap.size 215 (ns a) ∧ Row wr (w.heap.size + 1) 83 (bs (List.replicate 16 0)) ∧ Row wr (w.heap.size + 1 + 1) 83 (bs zs) ∧ Below w.heap.size w wr)
    (fun iv _ => 16 - (intOf iv).toNat)
  case atStart => exact ⟨0, List.replicate 16 0, by omega, rfl, rfl, fun i hi => by omega, ((Row.new _ _ _).alloc _).alloc _, (Row.new1 _ _ _ (bs (List.replicate 16 0))).alloc _, Row.new2 _ _ _ _ (bs (List.replicate 16 0)), (((Below.refl _ w).alloc (Nat.le_refl _) _).alloc (by simp) _).alloc (by simp; omega) _⟩
  case round =>
    obtain ⟨k, zs, hk, rfl, HL, HD, r0, r1, r2, hbel⟩ := hrel
    by_cases h16 : k < 16
    · have hdk : decide ((k : Int) < 16) = true := by simp; omega
      have ca := r0.cellN (j := 8 * k / 26) (by rw [HA.out.len]; omega)
      obtain ⟨x, hxe⟩ : ∃ x, x = gn a (8 * k / 26) := ⟨_, rfl⟩
      have hx26 : x < 67108864 := by rw [hxe]; exact HA.out.lt _
      rw [← hxe] at ca
      have cz := r2.cellB (j := k) (by rw [HL.out]; exact h16)
      have fz := r2.frozen k
      generalize v8 (gb zs k) = v0 at cz
      obtain ⟨p, hpe⟩ : ∃ p, p = x / 2 ^ (8 * k % 26) := ⟨_, rfl⟩
      have hpb : p < 67108864 := by rw [hpe]; exact Nat.lt_of_le_of_lt (Nat.div_le_self _ _) hx26
      have hshr : (x : Int) / 2 ^ (8 * k % 26) = (p : Int) := by rw [hpe]; simp
      by_cases h4 : 8 * k / 26 + 1 < 5
      · have cb := r0.cellN (j := 8 * k / 26 + 1) (by rw [HA.out.len]; omega)
        obtain ⟨y, hye⟩ : ∃ y, y = gn a (8 * k / 26 + 1) := ⟨_, rfl⟩
        have hy26 : y < 67108864 := by rw [hye]; exact HA.out.lt _
        rw [← hye] at cb
        have hd4 : decide (8 * (k : Int) / 26 + 1 < 5) = true := by simp; omega
        have HW : Hid (bits .or .u64 (p : Int) (IntKind.u64.wrap ((y : Int) * 2 ^ (26 - 8 * k % 26))) % 256 = v8 (byteAt (V5 a) k)) := show _ = _ by
          have hpw : y * 2 ^ (26 - 8 * k % 26) < 18446744073709551616 := by
            have h1 : y * 2 ^ (26 - 8 * k % 26) ≤ 67108864 * 2 ^ 26 := Nat.mul_le_mul (Nat.le_of_lt hy26) (Nat.pow_le_pow_right (by omega) (by omega))
            omega
          have hpt : p < 2 ^ (26 - 8 * k % 26) := by
            rw [hpe]
            apply Nat.div_lt_of_lt_mul
            rw [← Nat.pow_add, show 8 * k % 26 + (26 - 8 * k % 26) = 26 by omega]
            exact hx26
          have e1 : (y : Int) * 2 ^ (26 - 8 * k % 26) = ((y * 2 ^ (26 - 8 * k % 26) : Nat) : Int) := by simp
          have e2 : IntKind.u64.wrap ((y * 2 ^ (26 - 8 * k % 26) : Nat) : Int) = ((y * 2 ^ (26 - 8 * k % 26) : Nat) : Int) := by rw [IntKind.wrap_u64]; omega
          rw [e1, e2, or_apart p y _ hpt (by omega) hpw, v8_byteAt, ← byte_two HA.out k h16 h4, ← hxe, ← hye, ← hpe]
          omega
        clear hpe hxe hye
        go_wp2
        go_roundw
        case rel =>
          rw [HW.out]
          have q2 := r2.set k (.int .u8 (v8 (byteAt (V5 a) k)))
          rw [bs_set] at q2
          refine ⟨k + 1, _, by omega, by go_num, ?_, ?_, r0.other (by show w.heap.size ≠ w.heap.size + 1 + 1; omega) _, r1.other (by show w.heap.size + 1 ≠ w.heap.size + 1 + 1; omega) _, q2, hbel.setCell (p := ⟨w.heap.size + 1 + 1, k, none⟩) (by show w.heap.size ≤ w.heap.size + 1 + 1; omega) _⟩
          · show List.length _ = 16
            rw [List.length_set]; exact HL.out
          · intro i hi
            rw [gb_set _ (by rw [HL.out]; exact h16)]
            split
            · rename_i h; rw [h]
            · exact HD.out i (by omega)
        case measure => simp [intOf]; omega
      · have hd4 : decide (8 * (k : Int) / 26 + 1 < 5) = false := by simp; omega
        have HW : Hid ((p : Int) % 256 = v8 (byteAt (V5 a) k)) := show _ = _ by
          rw [v8_byteAt, ← byte_one HA.out k h16 h4, ← hxe, ← hpe]
          omega
        clear hpe hxe
        go_wp2
        go_roundw
        case rel =>
          rw [HW.out]
          have q2 := r2.set k (.int .u8 (v8 (byteAt (V5 a) k)))
          rw [bs_set] at q2
          refine ⟨k + 1, _, by omega, by go_num, ?_, ?_, r0.other (by show w.heap.size ≠ w.heap.size + 1 + 1; omega) _, r1.other (by show w.heap.size + 1 ≠ w.heap.size + 1 + 1; omega) _, q2, hbel.setCell (p := ⟨w.heap.size + 1 + 1, k, none⟩) (by show w.heap.size ≤ w.heap.size + 1 + 1; omega) _⟩
          · show List.length _ = 16
            rw [List.length_set]; exact HL.out
          · intro i hi
            rw [gb_set _ (by rw [HL.out]; exact h16)]
            split
            · rename_i h; rw [h]
            · exact HD.out i (by omega)
        case measure => simp [intOf]; omega
    · have hdk : decide ((k : Int) < 16) = false := by simp; omega
      rw [show k = 16 by omega] at HD
      have e := by16_of HL.out HD.out
      have hsz : (bs zs).size = 16 := by rw [bs_size, HL.out]
      have HE := veil e
      clear e
      go_wp2_with (first
        | (with_reducible (show wpList _ _ _ (⟨_, Op.load 83 _, _, _, _, _⟩ :: _) _ _)
           refine load_row rfl 83 _ rfl (w.heap.size + 1 + 1) rfl _ _ r2 16 5 Tryz.underlying83 (by kernel_rfl) hsz ?_)
        | (with_reducible (show wpList _ _ _ (⟨_, Op.store 83 _ _, _, _, _, _⟩ :: _) _ _)
           refine store_row rfl 83 _ _ rfl (w.heap.size + 1) (bs zs) rfl rfl _ _ r1 16 (by kernel_rfl) (by rw [bs_size, List.length_replicate]) hsz (bs_one _) ?_))
      refine bodyPost_ret (result_row rfl _ _ (w.heap.size + 1) _ _ (r1.put _) 16 5 rfl Tryz.underlying83 (by kernel_rfl) hsz) rfl ⟨by rw [HE.out], bSetRow hbel (by omega) _⟩
end Go.Proofs.YtbheoldakmcppaaGreatDoor

/-! What poly.cleared answers. -/
namespace Go.Proofs.YtbheoldakmcppaaGreatDoor
open Go Go.RowKit

theorem leK_congr {a b : List By} (k : Nat) (h : ∀ i, i < k → gb a i = gb b i) : leK a k = leK b k := by
  induction k with
  | zero => rfl
  | succ k ih =>
    rw [show leK a (k + 1) = leK a k + (gb a k).toNat * 256 ^ k from rfl, ih (fun i hi => h i (by omega)), h k (by omega)]
    rfl
/-- The bytes of a key's first half, some bits cleared. -/
def clB (key : List By) (i : Nat) : By := if i % 4 = 3 then gb key i &&& 15 else if i % 4 = 0 ∧ 0 < i then gb key i &&& 252 else gb key i
def clL (key : List By) : List By := (List.range 16).map (clB key)
theorem clL_get (key : List By) (i : Nat) (h : i < 16) : gb (clL key) i = clB key i := by simp [clL, gb, h]
/-- A key's r. -/
def rN (key : List By) : Nat := leK (clL key) 16
theorem and_by (x y : By) : bits .and .u8 (v8 x) (v8 y) = v8 (x &&& y) := by
  have h1 := v8_nn x
  have h2 := v8_le x
  have h3 := v8_nn y
  have h4 := v8_le y
  rw [u8_and _ _ h1 (by omega) h3 (by omega)]
  unfold v8
  rw [BitVec.toNat_and, Int.toNat_natCast, Int.toNat_natCast]
theorem gb_take (zs : List By) (n i : Nat) (h : i < n) : gb (zs.take n) i = gb zs i := by
  unfold gb
  rw [List.getElem?_take, if_pos h]

theorem gb_cut (zs : List By) (off n i : Nat) (h : i < n) : gb ((zs.drop off).take n) i = gb zs (off + i) := by
  unfold gb
  rw [List.getElem?_take, if_pos h, List.getElem?_drop]
/-- A part of a row of bytes, as a slice. -/
theorem slice_ok {w : World} {g : Nat} {t : TypeId} {zs : List By} (h : Row w g t (bs zs)) (off n cap : Nat) (h1 : off + n ≤ zs.length) (h2 : n ≤ cap) : (SL.mk (some ⟨g, off, none⟩) n cap g off ((zs.drop off).take n)).Ok w where
  hb := by
    show ((zs.drop off).take n).length = n
    rw [List.length_take, List.length_drop]
    omega
  hcap := h2
  nil := fun e => by simp at e
  at_ := fun _ => rfl
  lt := fun _ => h.lt
  cell := fun j hj => by
    have hj : j < n := hj
    show w.cell? ⟨g, off + j, none⟩ = some (.int .u8 (v8 (gb ((zs.drop off).take n) j)))
    rw [gb_cut _ _ _ _ hj]
    exact h.cellB (by omega)

set_option maxRecDepth 20000 in
set_option maxHeartbeats 1000000 in
theorem cleared_any (key : List By) (hk : key.length = 32) (w : World) :
    Calls Tryz.prog 147 #[.agg (bs key)] w fun e w' => ∃ ys, e = .returned (.agg (ns ys)) ∧ Sm ys ∧ V5 ys = rN key ∧ Below w.heap.size w w' := by
  have HK := veil hk
  clear hk
  go_enter Tryz.func147, Tryz.ntmps147
  go_wp2
  go_loopw [3] (fun iv wr => ∃ (i : Nat) (zs : List By), i ≤ 19 ∧ i % 4 = 3 ∧ iv = .int .i64 i ∧ Hid (zs.length = 32) ∧ Hid (∀ j, gb zs j = if j % 4 = 3 ∧ j < i then gb key j &&& 15 else gb key j) ∧ Row wr w.heap.size 78 (bs zs) ∧ Row wr (w.heap.size + 1) 215 (ns (List.replicate 5 0)) ∧ Below w.heap.size w wr)
    (fun iv _ => 19 - (intOf iv).toNat)
  case atStart =>
    refine ⟨3, key, by omega, rfl, rfl, HK, fun j => ?_, (Row.new _ _ _).alloc _, Row.new1 _ _ _ (ns (List.replicate 5 0)), ((Below.refl _ w).alloc (Nat.le_refl _) _).alloc (by simp) _⟩
    rw [if_neg (by omega)]
  case round =>
    obtain ⟨i, zs, hi, hi4, rfl, HL, HD, r0, r1, hbel⟩ := hrel
    by_cases h16 : i < 16
    · have cx := r0.cellB (j := i) (by rw [HL.out]; omega)
      have fx := r0.frozen i
      rw [HD.out i, if_neg (by omega)] at cx
      obtain ⟨x, hxe⟩ : ∃ x, x = gb key i := ⟨_, rfl⟩
      rw [← hxe] at cx
      have hand : bits .and .u8 (v8 x) 15 = v8 (x &&& 15) := and_by x 15
      have HXE := veil hxe
      clear hxe
      go_wp2
      go_roundw
      case rel =>
        have q0 := r0.set i (.int .u8 (v8 (x &&& 15)))
        rw [bs_set] at q0
        refine ⟨i + 4, _, by omega, by omega, by go_num, ?_, ?_, q0, r1.other (by show w.heap.size + 1 ≠ w.heap.size; omega) _, hbel.setCell (p := ⟨w.heap.size, i, none⟩) (Nat.le_refl _) _⟩
        · show List.length _ = 32
          rw [List.length_set]; exact HL.out
        · intro j
          rw [gb_set _ (by rw [HL.out]; omega), HD.out j, HXE.out]
          by_cases hij : i = j
          · subst hij
            rw [if_pos rfl, if_pos ⟨hi4, by omega⟩]
          · rw [if_neg hij]
            by_cases h3 : j % 4 = 3 ∧ j < i
            · rw [if_pos h3, if_pos ⟨h3.1, by omega⟩]
            · rw [if_neg h3, if_neg (by omega)]
      case measure => simp [intOf]; omega
    · rw [show i = 19 by omega] at HD
      have hdi : decide ((i : Int) < 16) = false := by simp; omega
      go_wp2
      go_loopw [4] (fun iv wr => ∃ (i : Nat) (zs : List By), i ≤ 16 ∧ i % 4 = 0 ∧ 4 ≤ i ∧ iv = .int .i64 i ∧ Hid (zs.length = 32) ∧ Hid (∀ j, j < 16 → gb zs j = if j % 4 = 3 then gb key j &&& 15 else if (j % 4 = 0 ∧ 0 < j) ∧ j < i then gb key j &&& 252 else gb key j) ∧ Row wr w.heap.size 78 (bs zs) ∧ Row wr (w.heap.size + 1) 215 (ns (List.replicate 5 0)) ∧ Below w.heap.size w wr)
        (fun iv _ => 16 - (intOf iv).toNat)
      case atStart =>
        refine ⟨4, zs, by omega, rfl, by omega, rfl, HL, fun j hj => ?_, r0, r1, hbel⟩
        rw [HD.out j]
        by_cases h3 : j % 4 = 3
        · rw [if_pos h3, if_pos ⟨h3, by omega⟩]
        · rw [if_neg h3, if_neg (fun e => h3 e.1), if_neg (by omega)]
      case round =>
        clear HL HD r0 r1 hbel hdi
        obtain ⟨i, zs, hi, hi4, hi0, rfl, HL, HD, r0, r1, hbel⟩ := hrel
        by_cases h16 : i < 16
        · have cx := r0.cellB (j := i) (by rw [HL.out]; omega)
          have fx := r0.frozen i
          rw [HD.out i h16, if_neg (by omega), if_neg (by omega)] at cx
          obtain ⟨x, hxe⟩ : ∃ x, x = gb key i := ⟨_, rfl⟩
          rw [← hxe] at cx
          have hand : bits .and .u8 (v8 x) 252 = v8 (x &&& 252) := and_by x 252
          have HXE := veil hxe
          clear hxe
          go_wp2
          go_roundw
          case rel =>
            have q0 := r0.set i (.int .u8 (v8 (x &&& 252)))
            rw [bs_set] at q0
            refine ⟨i + 4, _, by omega, by omega, by omega, by go_num, ?_, ?_, q0, r1.other (by show w.heap.size + 1 ≠ w.heap.size; omega) _, hbel.setCell (p := ⟨w.heap.size, i, none⟩) (Nat.le_refl _) _⟩
            · show List.length _ = 32
              rw [List.length_set]; exact HL.out
            · intro j hj
              rw [gb_set _ (by rw [HL.out]; omega), HD.out j hj, HXE.out]
              by_cases hij : i = j
              · subst hij
                rw [if_pos rfl, if_neg (by omega), if_pos ⟨⟨hi4, by omega⟩, by omega⟩]
              · rw [if_neg hij]
                by_cases h3 : j % 4 = 3
                · rw [if_pos h3, if_pos h3]
                · rw [if_neg h3, if_neg h3]
                  by_cases h0 : (j % 4 = 0 ∧ 0 < j) ∧ j < i
                  · rw [if_pos h0, if_pos ⟨h0.1, by omega⟩]
                  · rw [if_neg h0, if_neg (by omega)]
          case measure => simp [intOf]; omega
        · rw [show i = 16 by omega] at HD
          have hdi : decide ((i : Int) < 16) = false := by simp; omega
          have HE : Hid (leN (zs.take 16) = rN key) := show _ = _ by
            unfold leN rN
            rw [List.length_take, HL.out]
            exact leK_congr 16 (fun j hj => by
              rw [gb_take _ _ _ hj, HD.out j hj, clL_get _ _ hj]
              unfold clB
              by_cases h3 : j % 4 = 3
              · rw [if_pos h3, if_pos h3]
              · rw [if_neg h3, if_neg h3]
                by_cases h0 : j % 4 = 0 ∧ 0 < j
                · rw [if_pos h0, if_pos ⟨h0, hj⟩]
                · rw [if_neg h0, if_neg (fun e => h0 e.1)])
          have hsl := slice_ok r0 0 16 32 (by rw [HL.out]; omega) (by omega)
          rw [List.drop_zero] at hsl
          have HV : Hid (leN (zs.take 16) < 1361129467683753853853498429727072845824) := show _ < _ by
            have := leK_lt (zs.take 16) (zs.take 16).length
            rw [show (zs.take 16).length = 16 by simp [HL.out]] at this
            unfold leN
            rw [show (zs.take 16).length = 16 by simp [HL.out]]
            exact Nat.lt_trans this (by decide)
          have HSL := veil hsl
          clear hsl
          go_wp2_with fail
          refine (numberOf_any _ wr HSL.out (by show 16 ≤ 17; omega) HV.out).mono ?_
          rintro e1 w1 ⟨ys, rfl, hsm, hv5, hb1⟩
          have HS := veil hsm
          have HC := veil hv5
          have hs1 := hbel.size
          have q1 := r1.below hb1 r1.lt
          have bel2 : Below w.heap.size w w1 := hbel.trans (hb1.mono hs1)
          clear hsm hv5
          go_wp2_with (with_reducible (show wpList _ _ _ (⟨_, Op.store 215 _ _, _, _, _, _⟩ :: _) _ _)
                       refine store_row rfl 215 _ _ rfl (w.heap.size + 1) (ns ys) rfl rfl _ _ q1 5 (by kernel_rfl) (by rw [ns_size, List.length_replicate]) (by rw [ns_size, HS.out.len]) (ns_one _) ?_)
          refine bodyPost_ret (result_row rfl _ _ (w.heap.size + 1) _ _ (q1.put _) 5 23 rfl Tryz.underlying215 (by kernel_rfl) (by rw [ns_size, HS.out.len])) rfl ⟨ys, rfl, HS.out, by rw [HC.out]; exact HE.out, bSetRow bel2 (by omega) _⟩
end Go.Proofs.YtbheoldakmcppaaGreatDoor

/-! Laws for walks by hand: operations of a region that draws its order; copies into a whole row. -/
namespace Go.Proofs.YtbheoldakmcppaaGreatDoor
open Go Go.RowKit

section
variable {P : Program} {ops : Array Oper} {Q : Exit → Act → World → Prop} {md : Region.Mode} {S : World → Prop} {fuel : Nat} {listed : Array Bool} {a : Act} {w : World}

/-- What yields its value in every world that S holds of is taken first. -/
theorem H_take {o : Oper} (i : Nat) (v : Value) (hi : ops[i]? = some o) (he : ∀ W, S W → (execOp a.eval o).run P W = .ok (.value v) W)
    (hs : Region.noSelect ops = true) (hf : Region.free md ops listed i = true) (hr : (Region.ready md ops listed).contains i = true)
    (hQ : ∀ c a v w, Q (.panic c) (a.put o.dst v) w → Q (.panic c) a w) (hw : Region.wanted o (yielded ops a.tmps) = true) (hS : S w)
    (h : wpAnyH P md ops Q S fuel (listed.setIfInBounds i true) (a.put o.dst v) w) : wpAnyH P md ops Q S (fuel + 1) listed a w :=
  wpAnyH_take hi hs hf hr (fun c a w => hQ c a _ w) (.inl ⟨hw, he⟩) hS h

/-- One operation: a value, and a world. -/
theorem O_value {o : Oper} {i : Nat} {K : Act → World → Prop} (hi : ops[i]? = some o) (hw : Region.wanted o (yielded ops a.tmps) = true) (v : Value) (w' : World)
    (he : (execOp a.eval o).run P w = .ok (.value v) w') (h : K (a.put o.dst v) w') : wpOp P ops Q i K a w := by
  unfold wpOp
  simp only [hi, hw, if_true]
  refine .inl ?_
  unfold Oper.wp
  rw [he]
  exact h
theorem O_skip {o : Oper} {i : Nat} {K : Act → World → Prop} (hi : ops[i]? = some o) (hw : Region.wanted o (yielded ops a.tmps) = true) (w' : World)
    (he : (execOp a.eval o).run P w = .ok .skip w') (h : K (a.put o.dst undef) w') : wpOp P ops Q i K a w := by
  unfold wpOp
  simp only [hi, hw, if_true]
  refine .inl ?_
  unfold Oper.wp
  rw [he]
  exact h
theorem O_call {o : Oper} {i : Nat} {K : Act → World → Prop} (hi : ops[i]? = some o) (hw : Region.wanted o (yielded ops a.tmps) = true) (f : Nat) (args : Array Value)
    (he : (execOp a.eval o).run P w = .ok (.enter f args) w) (hc : Calls P f args w fun e w' => ∃ v, e = .returned v ∧ K (a.put o.dst v) w') : wpOp P ops Q i K a w := by
  unfold wpOp
  simp only [hi, hw, if_true]
  refine .inl ?_
  unfold Oper.wp
  rw [he]
  exact hc.mono (by rintro e w' ⟨v, rfl, h⟩; exact h)

/-- What comes up alone. -/
theorem H_one (i : Nat) (hr : Region.ready md ops listed = [i]) (h : wpOp P ops Q i (fun a' w' => S w' ∧ wpAnyH P md ops Q S fuel (listed.setIfInBounds i true) a' w') a w) : wpAnyH P md ops Q S (fuel + 1) listed a w :=
  wpAnyH_all hr (by simp) (fun j hj => by obtain rfl : j = i := by simpa using hj
                                          exact h)

theorem exec_alloc_row {o : Oper} (t : TypeId) (ho : o.op = .alloc t) (cs : Array Value) (hz : (P.info? t).map (·.zero) = some (some (.agg cs))) :
    (execOp a.eval o).run P w = .ok (.value (.pointer (some ⟨w.heap.size, 0, none⟩))) (w.alloc (.cells cs t)) := by
  have hzv : (zeroValue t).run P w = .ok (.agg cs) w := by
    cases hq : P.info? t with
    | none => simp [hq] at hz
    | some i =>
      have : i.zero = some (.agg cs) := by simpa [hq] using hz
      simp [zeroValue, typeInfo, hq, this]
  unfold execOp
  simp only [ho, Instr.alloc, Sem.run_bind, hzv, Result.andThen_ok, newVar, newRow, Value.cells, run_newObj_alloc, Sem.run_pure]

theorem exec_copy {o : Oper} (s x : Operand) (t1 t2 : TypeId) (ho : o.op = .call { callee := .builtin .copy, args := #[s, x], argTypes := #[t1, t2] }) (vs vx : Value) (hs : a.eval s = vs) (hx : a.eval x = vx)
    (v : Value) (w' : World) (hr : (Builtin.copy_ #[t1, t2] o.type #[vs, vx]).run P w = .ok v w') : (execOp a.eval o).run P w = .ok (.value v) w' := by
  unfold execOp
  simp only [ho, resolve, invoke, builtin, Sem.run_bind, Sem.run_pure, Result.andThen_ok, List.map_toArray, List.map_cons, List.map_nil, hs, hx, hr]

theorem wpList_copy {rest : List Oper} {o : Oper} (hgd : o.guard = none) (s x : Operand) (t1 t2 : TypeId) (ho : o.op = .call { callee := .builtin .copy, args := #[s, x], argTypes := #[t1, t2] }) (vs vx : Value) (hs : a.eval s = vs) (hx : a.eval x = vx)
    (v : Value) (w' : World) (hr : (Builtin.copy_ #[t1, t2] o.type #[vs, vx]).run P w = .ok v w') (h : wpList P ops Q rest (a.put o.dst v) w') : wpList P ops Q (o :: rest) a w :=
  wpList_plain hgd fun _ hK => by
    unfold Oper.wp
    rw [exec_copy s x t1 t2 ho vs vx hs hx v w' hr]
    exact hK _ _ h
end

/-- A slice of bytes is copied into a whole row, which it does not lie in. -/
theorem copy_sl (w : World) (g : Nat) (t : TypeId) (old : List By) (n : Nat) (q : SL) (hr : Row w g t (bs old)) (hn : old.length = n) (hq : q.Ok w) (hl : q.len ≤ n) :
    ∃ w', (Builtin.copy_ #[22, 22] 3 #[.slice (some ⟨g, 0, none⟩) n n, .slice q.a q.len q.cap]).run Tryz.prog w = .ok (goInt q.len) w' ∧ Row w' g t (bs (q.b ++ old.drop q.len)) ∧ Keep1 g w w' := by
  by_cases h0 : q.len = 0
  · have hb0 : q.b = [] := List.eq_nil_of_length_eq_zero (by rw [hq.hb, h0])
    refine ⟨w, ?_, ?_, Keep1.refl _ _⟩
    · rw [h0]
      exact run_copy_none _ _ _ _ 5 _ _ _ _ _ _ Tryz.underlying22 (by kernel_rfl) (by simp)
    · rw [hb0, h0]
      exact hr
  · have hpos : 0 < q.len := by omega
    have hl2 : (bl q.b).length = q.len := by simp only [bl, List.length_map, hq.hb]
    have := run_copy_row (P := Tryz.prog) w 22 22 3 5 g 0 n n ⟨q.g, q.off, none⟩ q.len q.cap (bs old) t (bl q.b) Tryz.underlying22 (by kernel_rfl) hr (by rw [hl2]; exact (Nat.min_eq_left (by omega)).symm)
      (fun j v hv => by
        have hj : j < q.len := by have := (List.getElem?_eq_some_iff.1 hv).1; rw [hl2] at this; exact this
        rw [Addr.add_mid, hq.cell j hj, ← hv]
        unfold bl gb
        rw [List.getElem?_map, List.getElem?_eq_getElem (by rw [hq.hb]; exact hj)]
        rfl)
      (by rw [hl2, bs_size, hn]; omega) (fun v hv => by
        obtain ⟨z, _, rfl⟩ := List.mem_map.1 hv
        rfl)
    rw [hl2, ← hq.at_ hpos] at this
    refine ⟨_, this, ?_, Keep1.setRow _ _ _⟩
    have h2 := hr.put (((bs old).toList.take 0 ++ bl q.b ++ (bs old).toList.drop (0 + q.len)).toArray)
    have e : ((bs old).toList.take 0 ++ bl q.b ++ (bs old).toList.drop (0 + q.len)).toArray = bs (q.b ++ old.drop q.len) := by
      apply Array.ext'
      simp only [bs, bl, List.take_zero, List.nil_append, Nat.zero_add, List.map_append, List.map_drop]
    rw [e] at h2
    first
      | exact h2
      | (rw [← e]; rw [e]; exact h2)
end Go.Proofs.YtbheoldakmcppaaGreatDoor

/-! What poly.partNumber answers. -/
namespace Go.Proofs.YtbheoldakmcppaaGreatDoor
open Go Go.RowKit

/-- The number of a part. -/
def partN (b : List By) : Nat := leN b + 256 ^ b.length
theorem leK_marked (m b : List By) (h1 : ∀ i, i < b.length → gb m i = gb b i) (h2 : gb m b.length = 1) (h3 : ∀ i, b.length < i → gb m i = 0) (k : Nat) : leK m k = if k ≤ b.length then leK b k else partN b := by
  induction k with
  | zero => rw [if_pos (Nat.zero_le _)]; rfl
  | succ k ih =>
    rw [show leK m (k + 1) = leK m k + (gb m k).toNat * 256 ^ k from rfl, ih]
    by_cases hk : k < b.length
    · rw [if_pos (by omega), if_pos (by omega), h1 k hk]
      rfl
    · by_cases he : k = b.length
      · subst he
        rw [if_pos (Nat.le_refl _), if_neg (by omega), h2]
        show leK b b.length + 1 * 256 ^ b.length = _
        rw [Nat.one_mul]
        rfl
      · rw [if_neg (by omega), if_neg (by omega), h3 k (by omega)]
        show _ + 0 * _ = _
        rw [Nat.zero_mul, Nat.add_zero]
theorem partN_lt (b : List By) (h : b.length ≤ 16) : partN b < 680564733841876926926749214863536422912 := by
  unfold partN leN
  have h1 := leK_lt b b.length
  have h2 : 256 ^ b.length ≤ 256 ^ 16 := Nat.pow_le_pow_right (by omega) h
  have h3 : (256 : Nat) ^ 16 = 340282366920938463463374607431768211456 := by decide
  omega
theorem gb_app_left (a b : List By) (i : Nat) (h : i < a.length) : gb (a ++ b) i = gb a i := by
  unfold gb
  rw [List.getElem?_append_left h]
theorem gb_app_right (a b : List By) (i : Nat) (h : a.length ≤ i) : gb (a ++ b) i = gb b (i - a.length) := by
  unfold gb
  rw [List.getElem?_append_right h]
theorem gb_zeros (n i : Nat) : gb (List.replicate n (0 : By)) i = 0 := by
  unfold gb
  rw [List.getElem?_replicate]
  split <;> rfl

set_option maxRecDepth 20000 in
set_option maxHeartbeats 1000000 in
theorem partNumber_any (q : SL) (w : World) (hq : q.Ok w) (hlen : q.len ≤ 16) :
    Calls Tryz.prog 176 #[.slice q.a q.len q.cap] w fun e w' => ∃ ys, e = .returned (.agg (ns ys)) ∧ Sm ys ∧ V5 ys = partN q.b ∧ Below w.heap.size w w' := by
  obtain ⟨w0, hw0⟩ : ∃ w0, w0 = (w.alloc (.cells (ns (List.replicate 5 0)) 215)).alloc (.cells (bs (List.replicate 17 0)) 257) := ⟨_, rfl⟩
  have b0 : Below w.heap.size w w0 := by rw [hw0]; exact ((Below.refl _ w).alloc (Nat.le_refl _) _).alloc (by simp) _
  have p0 : Row w0 w.heap.size 215 (ns (List.replicate 5 0)) := by rw [hw0]; exact (Row.new _ _ _).alloc _
  have p1 : Row w0 (w.heap.size + 1) 257 (bs (List.replicate 17 0)) := by rw [hw0]; exact Row.new1 _ _ _ _
  obtain ⟨w2, hc2, rk, hk2⟩ := copy_sl w0 (w.heap.size + 1) _ (List.replicate 17 0) 17 q p1 rfl (hq.below b0) (by omega)
  have m0 := hk2.row p0 (by omega)
  have hs0 := b0.size
  have b2 := b0.trans (hk2.below (B := w.heap.size) (by omega) (by omega))
  obtain ⟨n, hn⟩ : ∃ n, n = q.len := ⟨_, rfl⟩
  have hbl : q.b.length = n := by rw [hq.hb, hn]
  have hl17 : (q.b ++ (List.replicate 17 (0 : By)).drop q.len).length = 17 := by
    rw [List.length_append, List.length_drop, List.length_replicate, hq.hb]
    omega
  have cx := rk.cellB (j := n) (by rw [hl17]; omega)
  have fx := rk.frozen n
  have r1 := rk.set n (.int .u8 (v8 1))
  rw [bs_set] at r1
  have HL : Hid (((q.b ++ (List.replicate 17 (0 : By)).drop q.len).set n 1).length = 17) := show _ = _ by rw [List.length_set]; exact hl17
  have HE : Hid (leN ((q.b ++ (List.replicate 17 (0 : By)).drop q.len).set n 1) = partN q.b) := show _ = _ by
    unfold leN
    rw [HL.out, leK_marked _ q.b ?_ ?_ ?_, if_neg (by omega)]
    · intro i hi
      rw [gb_set _ (by rw [hl17]; omega), if_neg (by omega), gb_app_left _ _ _ hi]
    · rw [gb_set _ (by rw [hl17]; omega), if_pos (by omega)]
    · intro i hi
      rw [gb_set _ (by rw [hl17]; omega), if_neg (by omega), gb_app_right _ _ _ (by omega), List.drop_replicate, gb_zeros]
  have HQL := veil hlen
  have hni : (n : Int) ≤ 16 := by omega
  generalize (q.b ++ (List.replicate 17 (0 : By)).drop q.len).set n 1 = m at *
  have m2 : Row (w2.setCell ⟨w.heap.size + 1, n, none⟩ (.int .u8 (v8 1))) w.heap.size 215 (ns (List.replicate 5 0)) := m0.other (by show w.heap.size ≠ w.heap.size + 1; omega) _
  have b3 : Below w.heap.size w (w2.setCell ⟨w.heap.size + 1, n, none⟩ (.int .u8 (v8 1))) := b2.setCell (p := ⟨w.heap.size + 1, n, none⟩) (by show w.heap.size ≤ w.heap.size + 1; omega) _
  have HP : Hid (partN q.b < 680564733841876926926749214863536422912) := show _ < _ from partN_lt q.b (by omega)
  rw [← hn] at hc2
  rw [hw0] at hc2
  generalize v8 (gb _ n) = v0 at cx
  rw [show v8 1 = 1 by decide] at r1 m2 b3
  have hok : (rowN (w.heap.size + 1) 17 m).Ok (w2.setCell ⟨w.heap.size + 1, n, none⟩ (.int .u8 1)) := rowN_ok r1 HL.out
  have HOK := veil hok
  have HLT : Hid (leN m < 1361129467683753853853498429727072845824) := show _ < _ by rw [HE.out]; exact Nat.lt_trans HP.out (by decide)
  rw [← hn]
  clear hn hw0 hk2 p0 p1 b0 m0 b2 hlen hbl hl17 hq hok hs0
  go_enter Tryz.func176, Tryz.ntmps176
  go_wp2_with (first
    | (with_reducible (show wpList _ _ _ (⟨some 7, Op.call _, _, _, _, _⟩ :: _) _ _)
       refine wpList_copy rfl _ _ _ _ rfl _ _ rfl rfl _ w2 hc2 ?_))
  refine (numberOf_any (rowN (w.heap.size + 1) 17 m) _ HOK.out (by show 17 ≤ 17; omega) HLT.out).mono ?_
  rintro e1 w1 ⟨ys, rfl, hsm, hv5, hb1⟩
  have HS := veil hsm
  have HC := veil (show V5 ys = leN m from hv5)
  have hs1 := b3.size
  have q1 := m2.below hb1 m2.lt
  have bel2 : Below w.heap.size w w1 := b3.trans (hb1.mono hs1)
  clear hsm hv5
  go_wp2_with (with_reducible (show wpList _ _ _ (⟨_, Op.store 215 _ _, _, _, _, _⟩ :: _) _ _)
               refine store_row rfl 215 _ _ rfl w.heap.size (ns ys) rfl rfl _ _ q1 5 (by kernel_rfl) (by rw [ns_size, List.length_replicate]) (by rw [ns_size, HS.out.len]) (ns_one _) ?_)
  refine bodyPost_ret (result_row rfl _ _ w.heap.size _ _ (q1.put _) 5 23 rfl Tryz.underlying215 (by kernel_rfl) (by rw [ns_size, HS.out.len])) rfl ⟨ys, rfl, HS.out, by rw [HC.out]; exact HE.out, bSetRow bel2 (Nat.le_refl _) _⟩
end Go.Proofs.YtbheoldakmcppaaGreatDoor

/-! What poly.parts tells: the numbers of the parts of bytes, one by one. -/
namespace Go.Proofs.YtbheoldakmcppaaGreatDoor
open Go Go.RowKit Go.Shelf
attribute [local go_sem] Oper.semAt_some

/-- The words of a number. -/
def w26 (v : Nat) : List Nat := [v % 67108864, v / 67108864 % 67108864, v / 4503599627370496 % 67108864, v / 302231454903657293676544 % 67108864, v / 20282409603651670423947251286016 % 67108864]
theorem w26_sm (v : Nat) : Sm (w26 v) := ⟨rfl, fun i => by
  match i with
  | 0 => exact Nat.mod_lt _ (by decide)
  | 1 => exact Nat.mod_lt _ (by decide)
  | 2 => exact Nat.mod_lt _ (by decide)
  | 3 => exact Nat.mod_lt _ (by decide)
  | 4 => exact Nat.mod_lt _ (by decide)
  | i + 5 => rw [gn_out (by simp [w26])]; decide⟩
theorem V5_w26 (v : Nat) (h : v < 1361129467683753853853498429727072845824) : V5 (w26 v) = v := by
  simp only [V5, w26, gn, List.getElem?_cons_zero, List.getElem?_cons_succ, Option.getD_some]
  omega
theorem sm_eq {ys : List Nat} (h : Sm ys) : ys = w26 (V5 ys) := by
  have h0 := h.lt 0
  have h1 := h.lt 1
  have h2 := h.lt 2
  have h3 := h.lt 3
  have h4 := h.lt 4
  obtain ⟨a, b, c, d, e, rfl⟩ := five h.len
  simp only [V5, w26, gn, List.getElem?_cons_zero, List.getElem?_cons_succ, Option.getD_some] at h0 h1 h2 h3 h4 ⊢
  congr 1
  · omega
  · congr 1
    · omega
    · congr 1
      · omega
      · congr 1
        · omega
        · congr 1
          omega
/-- Words as they are told. -/
abbrev Wn := { ys : List Nat // Sm ys }
def toW (v : Nat) : Wn := ⟨w26 v, w26_sm v⟩
def encW (x : Wn) : Array Value := #[.agg (ns x.1)]
/-- The i-th part. -/
def partAt (b : List By) (i : Nat) : List By := (b.drop (16 * i)).take 16
def partsTo (b : List By) (k : Nat) : List Wn := (List.range k).map fun i => toW (partN (partAt b i))
theorem partsTo_succ (b : List By) (k : Nat) : partsTo b (k + 1) = partsTo b k ++ [toW (partN (partAt b k))] := by
  unfold partsTo
  rw [List.range_succ, List.map_append]
  rfl
/-- How many parts. -/
def np (n : Nat) : Nat := (n + 15) / 16

theorem plPlain_builtin {F : Fence} {n : Nat} {P : Program} {ops : Array Oper} {rest : List Oper} {o : Oper} {a : Act} {w : World} {Q : Exit → Act → World → Prop} (hgd : o.guard = none) (b : Builtin) (args : Array Operand) (tys : Array TypeId) (ho : o.op = .call { callee := .builtin b, args := args, argTypes := tys }) (v : Value)
    (he : (execOp a.eval o).run P w = .ok (.value v) w) (h : wpListIn F n P ops Q rest (a.put o.dst v) w) : wpListIn F n P ops Q (o :: rest) a w :=
  wpListIn_plain hgd fun _ hK => ⟨(fun f hf => by rw [about_builtin _ _ _ ho] at hf; cases hf), (by rw [Oper.semAt_eq _ _ _ (by simp [ho]), he]; exact hK _ _ h)⟩
theorem part_ok {q : SL} {w : World} (h : q.Ok w) (i m : Nat) (hi : 16 * i < q.len) (hm : m = min 16 (q.len - 16 * i)) : (SL.mk (some ⟨q.g, q.off + 16 * i, none⟩) m (q.cap - 16 * i) q.g (q.off + 16 * i) (partAt q.b i)).Ok w where
  hb := by
    show (partAt q.b i).length = m
    unfold partAt
    rw [List.length_take, List.length_drop, h.hb, hm]
  hcap := by
    show m ≤ q.cap - 16 * i
    have := h.hcap
    omega
  nil := fun e => by simp at e
  at_ := fun _ => rfl
  lt := fun _ => h.lt (by omega)
  cell := fun j hj => by
    have hj : j < m := hj
    show w.cell? ⟨q.g, q.off + 16 * i + j, none⟩ = some (.int .u8 (v8 (gb (partAt q.b i) j)))
    unfold partAt
    rw [gb_cut _ _ _ _ (by omega), Nat.add_assoc]
    exact h.cell _ (by omega)

set_option maxRecDepth 100000 in
set_option maxHeartbeats 1000000 in
theorem parts1_in (n : Nat) (hn1 : 1 ≤ n) (l Bn st : Nat) (q : SL) (hl : q.len ≤ 4194304) (J : List Wn → World → Prop)
    (W : World) (rB : Row W Bn 22 #[.slice q.a q.len q.cap]) (hq : q.Ok W) (hBs : Bn ≠ st) (hgs : 0 < q.len → q.g ≠ st)
    (hJ : ∀ s A B, J s A → Below W.heap.size A B → J s B)
    (hY : ∀ pre x W1, J pre W1 → YieldAt Fence.wide (n - 1) Tryz.prog l (encW x) W1 fun e W' => e = .returned (.bool true) ∧ J (pre ++ [x]) W' ∧ Keep1 st W1 W')
    (h0 : J [] W) :
    CallsIn Fence.wide n Tryz.prog 175 #[.func (.yield l) #[] #[], .pointer (some ⟨Bn, 0, none⟩)] W fun e W' => (∃ v, e = .returned v) ∧ J (partsTo q.b (np q.len)) W' := by
  have HQ := veil hq
  have HR := veil rB
  have HJ := veil hJ
  have HY := veil hY
  have HG := veil hgs
  have hcap := hq.hcap
  obtain ⟨N, hN⟩ : ∃ N, N = q.len := ⟨_, rfl⟩
  obtain ⟨C, hC⟩ : ∃ C, C = q.cap := ⟨_, rfl⟩
  have HN := veil hN
  have HC := veil hC
  have HA := veil hq.at_
  have HL := veil hq.lt
  rw [← hN, ← hC] at hcap
  rw [← hN] at hl
  clear hq rB hJ hY hgs hN hC
  refine callsIn_of_wp Tryz.func175 rfl trivial ?_ rfl
  simp only [Tryz.ntmps175, List.size_toArray, List.length_cons, List.length_nil, Nat.reduceAdd, Nat.reduceSub, Array.replicate_succ, Array.replicate_zero, List.push_toArray, List.append_toArray, List.nil_append, List.cons_append]
  gi_wp2_with fail
  gi_loopw [3] (fun iv wr => ∃ i : Nat, 16 * i < N + 16 ∧ iv = .int .i64 ((16 * i : Nat) : Int) ∧ J (partsTo q.b i) wr ∧ Keep1 st W wr)
    (fun iv _ => N + 16 - (intOf iv).toNat)
  case atStart => exact ⟨0, by omega, rfl, h0, Keep1.refl _ _⟩
  case round =>
    clear h0
    obtain ⟨i, hi, rfl, hJi, hkp⟩ := hrel
    have hsz := hkp.size
    have HJi := veil hJi
    have HKP := veil hkp
    have cB : wr.cell? ⟨Bn, 0, none⟩ = some (.slice q.a N C) := by
      rw [HN.out, HC.out]
      exact (hkp.row HR.out hBs).cell 0
    clear hJi hkp
    by_cases hlt : 16 * i < N
    · have hdk : decide (((16 * i : Nat) : Int) < (N : Int)) = true := by simp; omega
      obtain ⟨m, hm⟩ : ∃ m, m = min 16 (N - 16 * i) := ⟨_, rfl⟩
      have hm16 : m ≤ 16 := by omega
      have hmN : 16 * i + m ≤ N := by omega
      have e := HA.out (by rw [← HN.out]; omega)
      rw [e] at cB
      have hqw : q.Ok wr := by
        refine HQ.out.same (fun p => HKP.out.block _ (HL.out p) (HG.out p)) hsz
      have hok := part_ok hqw i m (by rw [← HN.out]; exact hlt) (by rw [← HN.out]; exact hm)
      rw [← HC.out] at hok
      have HOK := veil hok
      clear hqw hok
      have hHM := veil hm
      clear hm
      gi_wp2_with (first
        | (with_reducible (show wpListIn _ _ _ _ _ (⟨_, Op.call { callee := .builtin .min, args := _, argTypes := _ }, _, _, _, _⟩ :: _) _ _)
           refine plPlain_builtin rfl .min _ _ rfl (.int .i64 ((16 * i + m : Nat) : Int)) ?hmin ?_
           case hmin => (go_simp; have := hHM.out; split <;> omega)))
      refine ⟨trivial, (callsIn_wide.2 (partNumber_any _ wr HOK.out hm16)).mono ?_⟩
      rintro e3 w3 ⟨ys, rfl, hsm, hv, hb3⟩
      have hys : ys = (toW (partN (partAt q.b i))).1 := by
        rw [sm_eq hsm, hv]
        rfl
      have J3 := HJ.out _ _ _ HJi.out (hb3.mono hsz)
      obtain ⟨fn, tmps, assign, body, hy, hR⟩ := HY.out (partsTo q.b i) (toW (partN (partAt q.b i))) w3 J3
      unfold encW at hy
      rw [← hys] at hy
      rw [← partsTo_succ] at hR
      have k3 : Keep1 st W w3 := HKP.out.trans (Keep1.of_below hb3)
      have K3 := veil k3
      clear hsm hv hys J3 hb3 k3
      gi_wp2_with fail
      refine hR.mono ?_
      rintro e W5 ⟨rfl, hJ5, hk5⟩
      gi_wp2
      go_roundw
      case rel => exact ⟨i + 1, by omega, by go_num, hJ5, K3.out.trans hk5⟩
      case measure => simp only [intOf]; omega
    · have hdk : decide (((16 * i : Nat) : Int) < (N : Int)) = false := by simp; omega
      have HE : Hid (np q.len = i) := show _ = _ by rw [← HN.out]; unfold np; omega
      gi_wp2
      go_end0
      exact ⟨⟨_, rfl⟩, by rw [HE.out]; exact HJi.out⟩

theorem parts_tells (n : Nat) (hn1 : 1 ≤ n) (Bn st : Nat) (q : SL) (hl : q.len ≤ 4194304) (w : World) (rB : Row w Bn 22 #[.slice q.a q.len q.cap]) (hq : q.Ok w) (hBs : Bn ≠ st) (hgs : 0 < q.len → q.g ≠ st) :
    Tells Fence.wide n Tryz.prog 175 #[.pointer (some ⟨Bn, 0, none⟩)] encW st (partsTo q.b (np q.len)) w := fun l J W hW hJ hY h0 =>
  parts1_in n hn1 l Bn st q hl J W (rB.below hW rB.lt) (hq.below hW) hBs hgs hJ hY h0

set_option maxHeartbeats 400000 in
theorem parts_in (n : Nat) (a : Option Addr) (len cap : Nat) (w : World) :
    CallsIn Fence.wide n Tryz.prog 149 #[.slice a len cap] w fun e w' => e = .returned (.func (.func 175) #[] #[.pointer (some ⟨w.heap.size, 0, none⟩)]) ∧ w' = w.alloc (.cells #[.slice a len cap] 22) := by
  refine callsIn_of_wp Tryz.func149 rfl trivial ?_ rfl
  simp only [Tryz.ntmps149, List.size_toArray, List.length_cons, List.length_nil, Nat.reduceAdd, Nat.reduceSub, Array.replicate_succ, Array.replicate_zero, List.push_toArray, List.append_toArray, List.nil_append, List.cons_append]
  gi_wp2
  go_ret
  exact ⟨rfl, rfl⟩
end Go.Proofs.YtbheoldakmcppaaGreatDoor

/-! What poly.least answers. -/
namespace Go.Proofs.YtbheoldakmcppaaGreatDoor
open Go Go.RowKit

theorem least_low {a : List Nat} (ha : Sm a) (i : Nat) (h0 : 1 ≤ i) (h1 : i ≤ 4) (h : gn a i < 67108863) : V5 a % PP = V5 a := by
  have b0 := ha.lt 0
  have b1 := ha.lt 1
  have b2 := ha.lt 2
  have b3 := ha.lt 3
  have b4 := ha.lt 4
  apply Nat.mod_eq_of_lt
  unfold V5 PP
  rcases (show i = 1 ∨ i = 2 ∨ i = 3 ∨ i = 4 by omega) with rfl | rfl | rfl | rfl <;> omega
theorem least_first {a : List Nat} (ha : Sm a) (h : gn a 0 < 67108859) : V5 a % PP = V5 a := by
  have b1 := ha.lt 1
  have b2 := ha.lt 2
  have b3 := ha.lt 3
  have b4 := ha.lt 4
  apply Nat.mod_eq_of_lt
  unfold V5 PP
  omega
theorem least_high {a : List Nat} (h : ∀ i, 1 ≤ i → i ≤ 4 → gn a i = 67108863) (d : Nat) (h0 : gn a 0 = d + 67108859) (hd : d < 5) : V5 [d, 0, 0, 0, 0] = V5 a % PP := by
  have e : V5 a = d + PP := by
    unfold V5 PP
    have h1 := h 1 (by omega) (by omega)
    have h2 := h 2 (by omega) (by omega)
    have h3 := h 3 (by omega) (by omega)
    have h4 := h 4 (by omega) (by omega)
    omega
  rw [e, Nat.add_mod_right, Nat.mod_eq_of_lt (by unfold PP; omega)]
  simp [V5, gn]

set_option maxRecDepth 20000 in
set_option maxHeartbeats 1000000 in
theorem least_any (a : List Nat) (ha : Sm a) (w : World) :
    Calls Tryz.prog 154 #[.agg (ns a)] w fun e w' => ∃ ys, e = .returned (.agg (ns ys)) ∧ Sm ys ∧ V5 ys = V5 a % PP ∧ Below w.heap.size w w' := by
  have HA := veil ha
  clear ha
  have hsz : (ns a).size = 5 := by rw [ns_size, HA.out.len]
  go_enter Tryz.func154, Tryz.ntmps154
  go_wp2
  go_loopw [7] (fun iv wr => ∃ (k : Nat), k ≤ 4 ∧ iv = .int .i64 k ∧ Hid (∀ i, 1 ≤ i → i ≤ k → gn a i = 67108863) ∧ Row wr w.heap.size 215 (ns a) ∧ Row wr (w.heap.size + 1) 215 (ns (List.replicate 5 0)) ∧ Below w.heap.size w wr)
    (fun iv _ => 4 - (intOf iv).toNat)
  case atStart => exact ⟨0, by omega, rfl, fun i h1 h2 => by omega, (Row.new _ _ _).alloc _, Row.new1 _ _ _ (ns (List.replicate 5 0)), ((Below.refl _ w).alloc (Nat.le_refl _) _).alloc (by simp) _⟩
  case round =>
    obtain ⟨k, hk, rfl, HD, r0, r1, hbel⟩ := hrel
    by_cases h4 : k < 4
    · have hdk : decide ((k : Int) < 4) = true := by simp; omega
      have cx := r0.cellN (j := 1 + k) (by rw [HA.out.len]; omega)
      obtain ⟨x, hxe⟩ : ∃ x, x = gn a (1 + k) := ⟨_, rfl⟩
      have hx26 : x < 67108864 := by rw [hxe]; exact HA.out.lt _
      rw [← hxe] at cx
      by_cases hm : x < 67108863
      · have HV : Hid (V5 a = V5 a % PP) := show _ = _ from (least_low HA.out (1 + k) (by omega) (by omega) (by rw [← hxe]; exact hm)).symm
        have hd : decide ((x : Int) < 67108863) = true := by simp; omega
        clear hxe hm
        go_wp2_with (first
          | (with_reducible (show wpList _ _ _ (⟨_, Op.load 215 _, _, _, _, _⟩ :: _) _ _)
             refine load_row rfl 215 _ rfl w.heap.size rfl _ _ r0 5 23 Tryz.underlying215 (by kernel_rfl) hsz ?_)
          | (with_reducible (show wpList _ _ _ (⟨_, Op.store 215 _ _, _, _, _, _⟩ :: _) _ _)
             refine store_row rfl 215 _ _ rfl (w.heap.size + 1) (ns a) rfl rfl _ _ r1 5 (by kernel_rfl) (by rw [ns_size, List.length_replicate]) hsz (ns_one _) ?_))
        refine bodyPost_ret (result_row rfl _ _ (w.heap.size + 1) _ _ (r1.put _) 5 23 rfl Tryz.underlying215 (by kernel_rfl) hsz) rfl ⟨a, rfl, HA.out, HV.out, bSetRow hbel (by omega) _⟩
      · have hd : decide ((x : Int) < 67108863) = false := by simp; omega
        have HD' : Hid (∀ i, 1 ≤ i → i ≤ k + 1 → gn a i = 67108863) := show ∀ i, 1 ≤ i → i ≤ k + 1 → gn a i = 67108863 from fun i h1 h2 => by
          by_cases hi : i ≤ k
          · exact HD.out i h1 hi
          · rw [show i = 1 + k by omega, ← hxe]; omega
        clear hxe hm
        go_wp2
        go_roundw
        case rel => exact ⟨k + 1, by omega, by go_num, HD', r0, r1, hbel⟩
        case measure => simp [intOf]; omega
    · have hdk : decide ((k : Int) < 4) = false := by simp; omega
      rw [show k = 4 by omega] at HD
      have cx := r0.cellN (j := 0) (by rw [HA.out.len]; omega)
      obtain ⟨x, hxe⟩ : ∃ x, x = gn a 0 := ⟨_, rfl⟩
      have hx26 : x < 67108864 := by rw [hxe]; exact HA.out.lt _
      rw [← hxe] at cx
      by_cases hm : x < 67108859
      · have HV : Hid (V5 a = V5 a % PP) := show _ = _ from (least_first HA.out (by rw [← hxe]; exact hm)).symm
        have hd : decide ((x : Int) < 67108859) = true := by simp; omega
        clear hxe hm
        go_wp2_with (first
          | (with_reducible (show wpList _ _ _ (⟨_, Op.load 215 _, _, _, _, _⟩ :: _) _ _)
             refine load_row rfl 215 _ rfl w.heap.size rfl _ _ r0 5 23 Tryz.underlying215 (by kernel_rfl) hsz ?_)
          | (with_reducible (show wpList _ _ _ (⟨_, Op.store 215 _ _, _, _, _, _⟩ :: _) _ _)
             refine store_row rfl 215 _ _ rfl (w.heap.size + 1) (ns a) rfl rfl _ _ r1 5 (by kernel_rfl) (by rw [ns_size, List.length_replicate]) hsz (ns_one _) ?_))
        refine bodyPost_ret (result_row rfl _ _ (w.heap.size + 1) _ _ (r1.put _) 5 23 rfl Tryz.underlying215 (by kernel_rfl) hsz) rfl ⟨a, rfl, HA.out, HV.out, bSetRow hbel (by omega) _⟩
      · have hd : decide ((x : Int) < 67108859) = false := by simp; omega
        obtain ⟨d, hdx⟩ : ∃ d : Nat, x = d + 67108859 := ⟨x - 67108859, by omega⟩
        have hd5 : d < 5 := by omega
        have HV : Hid (V5 [d, 0, 0, 0, 0] = V5 a % PP) := show _ = _ from least_high HD.out d (by rw [← hxe]; exact hdx) hd5
        have E1 : IntKind.u64.wrap ((x : Int) - 67108859) = (d : Int) := by rw [IntKind.wrap_u64]; omega
        clear hx26
        have HS : Hid (Sm [d, 0, 0, 0, 0]) := show Sm _ from ⟨rfl, fun i => by
          match i with
          | 0 => show d < _; omega
          | 1 => show 0 < _; decide
          | 2 => show 0 < _; decide
          | 3 => show 0 < _; decide
          | 4 => show 0 < _; decide
          | i + 5 => rw [gn_out (by simp)]; omega⟩
        clear hdx hm hxe
        iterate 40 go_step
        clear hd
        go_wp2_with (first
          | (with_reducible (show wpList _ _ _ (⟨_, Op.build 215 _, _, _, _, _⟩ :: _) _ _)
             refine build_row rfl 215 _ rfl #[.int .u64 (d : Int), .int .u64 0, .int .u64 0, .int .u64 0, .int .u64 0] (by kernel_rfl) ?_)
          | (with_reducible (show wpList _ _ _ (⟨_, Op.store 215 _ _, _, _, _, _⟩ :: _) _ _)
             refine store_row rfl 215 _ _ rfl (w.heap.size + 1) #[.int .u64 (d : Int), .int .u64 0, .int .u64 0, .int .u64 0, .int .u64 0] rfl rfl _ _ r1 5 (by kernel_rfl) (by rw [ns_size, List.length_replicate]) rfl (by simp [Value.oneCell']) ?_))
        refine bodyPost_ret (result_row rfl _ _ (w.heap.size + 1) _ _ (r1.put #[.int .u64 (d : Int), .int .u64 0, .int .u64 0, .int .u64 0, .int .u64 0]) 5 23 rfl Tryz.underlying215 (by kernel_rfl) rfl) rfl ⟨[d, 0, 0, 0, 0], rfl, HS.out, HV.out, bSetRow hbel (by omega) _⟩
end Go.Proofs.YtbheoldakmcppaaGreatDoor
