/-
  Out of RgCheck, FrIsSet, FrMayP, RgGuard, FrMay, FrAheadS, FrAheadT, FrAckP.
-/
import Derived.Test.YtaighdppemnglaaGreatDoorGf5
import Derived.Test.YtaighdppemnglaaGreatDoorGf6
import Derived.Test.YtaighdppemnglaaGreatDoorGf2

/-! What ranges.Check answers. -/
namespace Go.Proofs.YtaighdppemnglaaGreatDoor
open Go Go.RowKit

theorem setOk_no {l : List (Nat × Nat)} {k : Nat} (hk : k < l.length) (hn : ¬ ((gr l k).1 ≤ (gr l k).2 ∧ (gr l k).2 ≤ 4611686018427387903 ∧ (0 < k → (gr l (k - 1)).2 + 1 < (gr l k).1))) : ¬ Rg.setOk l := fun h => hn (setL_to l h.2 (k + 1) (by omega) k (by omega))
set_option maxRecDepth 20000 in
set_option maxHeartbeats 4000000 in
theorem rg_check (s : RL) (w : World) (hs : s.Ok w) :
    Calls Tryz.prog 124 #[.slice s.a s.len s.cap] w fun e w' => (e = .returned (.bool true) ∧ Rg.setOk s.l ∨ e = .returned (.bool false) ∧ ¬ Rg.setOk s.l) ∧ Below w.heap.size w w' := by
  obtain ⟨a, len, cap, g, off, l⟩ := s
  have hll : l.length = len := hs.hb
  by_cases h64 : 64 < len
  · have e64 : decide ((len : Int) > 64) = true := by simp; omega
    have e64' : decide ((64 : Int) < (len : Int)) = true := by simp; omega
    have e64n : decide (64 < len) = true := by simp; omega
    have HH := veil (show ¬ Rg.setOk l from fun h => by have := h.1; omega)
    clear hs hll h64
    go_enter Tryz.func124, Tryz.ntmps124
    go_wp2_with fail
    go_ret
    exact ⟨.inr ⟨rfl, HH.out⟩, Below.refl _ _⟩
  have e64 : decide ((64 : Int) < (len : Int)) = false := by simp; omega
  have e64n : decide (64 < len) = false := by simp; omega
  have HP := veil hs
  have HL := veil hll
  have H64 := veil h64
  have hl64 : len ≤ 64 := by omega
  clear hs hll h64
  go_enter Tryz.func124, Tryz.ntmps124
  go_wp2_with fail
  go_loopw [10] (fun i wr => ∃ k : Nat, k ≤ len ∧ i = .int .i64 k ∧ setTo l k ∧ Below w.heap.size w wr)
    (fun i _ => len - (intOf i).toNat)
  case atStart => exact ⟨0, Nat.zero_le _, rfl, fun j hj => absurd hj (Nat.not_lt_zero _), Below.refl _ _⟩
  case round =>
    obtain ⟨k, hk, rfl, hto, hbel⟩ := hrel
    by_cases hlt : k < len
    · have e1 : a = some ⟨g, off, none⟩ := HP.out.at_ (show 0 < len by omega)
      subst e1
      obtain ⟨c1, c2⟩ := (HP.out.below hbel).cell k hlt
      have sm := HP.out.small k
      simp only at c1 c2 sm
      have HTO := veil hto
      have HLt := veil hlt
      have HB := veil hbel
      have HBa := veil (fun o => hbel.alloc hbel.size o)
      have HLT := veil ((HP.out.below hbel).lt (show 0 < len by omega))
      clear hto hbel
      have HBb := veil (fun o o' => (HBa.out o).alloc ((HBa.out o).size) o')
      have HNO := veil (setOk_no (l := l) (k := k) (by have := HL.out; omega))
      by_cases h1 : (gr l k).1 ≤ (gr l k).2
      · have f1 : decide (((gr l k).1 : Int) ≤ ((gr l k).2 : Int)) = true := by simp; omega
        by_cases h2 : (gr l k).2 ≤ 4611686018427387903
        · have f2 : decide (((gr l k).2 : Int) ≤ 4611686018427387903) = true := by simp; omega
          by_cases hk0 : k = 0
          · have f3 : decide ((0 : Int) < (k : Int)) = false := by simp; omega
            have f3n : decide (0 < k) = false := by simp; omega
            have HS := veil (setTo_succ HTO.out h1 h2 (fun h => by omega))
            clear h1 h2 hk0 HNO sm HTO
            generalize ((gr l k).1 : Int) = y at *
            generalize ((gr l k).2 : Int) = z at *
            go_wp2
            go_quiet (fail)
            go_wp2
            go_roundw
            case rel => exact ⟨k + 1, by have := HLt.out; omega, by go_num, HS.out, below_drewN (HBb.out _ _) _⟩
            case measure => have := HLt.out; simp [intOf]; omega
          · have f3 : decide ((0 : Int) < (k : Int)) = true := by simp; omega
            have f3n : decide (0 < k) = true := by simp; omega
            have hk1 : (k : Int) - 1 = ((k - 1 : Nat) : Int) := by omega
            have hk2 : k - 1 < len := by omega
            have hkw : IntKind.i64.wrap ((k - 1 : Nat) : Int) = ((k - 1 : Nat) : Int) := by have := H64.out; rw [IntKind.wrap_i64]; omega
            have hc4 : ∀ o o', (((wr.alloc o).alloc o').cell? ⟨g, off + (k - 1) * 2 + 1, none⟩) = some (.int .u64 ((gr l (k - 1)).2 : Int)) := fun o o' => ((HP.out.below (HBb.out o o')).cell (k - 1) hk2).2
            have HC4 := veil hc4
            have hp := (HTO.out (k - 1) (by omega)).2.1
            have hw : IntKind.u64.wrap (((gr l (k - 1)).2 : Int) + 2) = (((gr l (k - 1)).2 + 2 : Nat) : Int) := by rw [IntKind.wrap_u64]; omega
            clear hc4
            by_cases h3 : (gr l (k - 1)).2 + 1 < (gr l k).1
            · have f4 : decide (((gr l k).1 : Int) < (((gr l (k - 1)).2 + 2 : Nat) : Int)) = false := by simp; omega
              have HS := veil (setTo_succ HTO.out h1 h2 (fun _ => h3))
              clear h1 h2 h3 hk0 HNO sm HTO hp
              generalize (((gr l (k - 1)).2 + 2 : Nat) : Int) = p at *
              generalize ((gr l (k - 1)).2 : Int) = q at *
              generalize ((gr l k).1 : Int) = y at *
              generalize ((gr l k).2 : Int) = z at *
              have c4 := HC4.out (.cells #[.int .u64 y, .int .u64 z] 114) (.cells #[.int .u64 y, .int .u64 z] 114)
              go_wp2
              go_quiet (fail)
              go_wp2
              go_roundw
              case rel => exact ⟨k + 1, by have := HLt.out; omega, by go_num, HS.out, below_drewN (HBb.out _ _) _⟩
              case measure => have := HLt.out; simp [intOf]; omega
            · have f4 : decide (((gr l k).1 : Int) < (((gr l (k - 1)).2 + 2 : Nat) : Int)) = true := by simp; omega
              have HH := veil (HNO.out fun h => h3 (h.2.2 (by omega)))
              clear h1 h2 h3 hk0 HNO sm HTO hp
              generalize (((gr l (k - 1)).2 + 2 : Nat) : Int) = p at *
              generalize ((gr l (k - 1)).2 : Int) = q at *
              generalize ((gr l k).1 : Int) = y at *
              generalize ((gr l k).2 : Int) = z at *
              have c4 := HC4.out (.cells #[.int .u64 y, .int .u64 z] 114) (.cells #[.int .u64 y, .int .u64 z] 114)
              go_wp2
              go_quiet (fail)
              go_wp2
              go_ret
              exact ⟨.inr ⟨rfl, HH.out⟩, below_drewN (HBb.out _ _) _⟩
        · have f2 : decide (((gr l k).2 : Int) ≤ 4611686018427387903) = false := by simp; omega
          have HH := veil (HNO.out fun h => h2 h.2.1)
          clear h1 h2 HNO sm HTO
          generalize ((gr l k).1 : Int) = y at *
          generalize ((gr l k).2 : Int) = z at *
          go_wp2
          go_ret
          exact ⟨.inr ⟨rfl, HH.out⟩, HBb.out _ _⟩
      · have f1' : decide (((gr l k).1 : Int) ≤ ((gr l k).2 : Int)) = false := by simp; omega
        have HH := veil (HNO.out fun h => h1 h.1)
        clear h1 HNO sm
        generalize ((gr l k).1 : Int) = y at *
        generalize ((gr l k).2 : Int) = z at *
        go_wp2
        go_ret
        exact ⟨.inr ⟨rfl, HH.out⟩, HBb.out _ _⟩
    · obtain rfl : len = k := by omega
      have HH := veil (show Rg.setOk l from ⟨by have := HL.out; have := H64.out; omega, setTo_L l (by rw [HL.out]; exact hto)⟩)
      have HB := veil hbel
      clear hto hbel
      go_wp2
      go_ret
      exact ⟨.inl ⟨rfl, HH.out⟩, HB.out⟩
end Go.Proofs.YtaighdppemnglaaGreatDoor

/-! Ranges that an answer may have: a set with something in it. -/
namespace Go.Proofs.YtaighdppemnglaaGreatDoor
open Go Go.RowKit

/-- May an answer have these ranges? -/
def ackOk (l : List (Nat × Nat)) : Prop := l ≠ [] ∧ l.length ≤ 64 ∧ Fr.setL l
theorem ack_iff {l : List (Nat × Nat)} (h : 0 < l.length) : Rg.setOk l ↔ ackOk l := ⟨fun h' => ⟨fun e => by rw [e] at h; exact absurd h (Nat.lt_irrefl 0), h'.1, h'.2⟩, fun h' => ⟨h'.2.1, h'.2.2⟩⟩
end Go.Proofs.YtaighdppemnglaaGreatDoor

/-! When a frame may be, by its fields' bits. No program in sight. -/
namespace Go.Proofs.YtaighdppemnglaaGreatDoor
open Go Go.RowKit

/-- The fields that the row of each kind names. -/
def namedN : Nat → Nat
  | 1 => 4 | 3 => 68 | 4 => 13 | 5 => 9 | 6 => 34 | 7 => 51 | 8 => 4 | 9 => 5 | 10 => 20 | 11 => 4 | 12 => 5 | 13 => 56 | _ => 0
def tb (k j : Nat) : Bool := (namedN k).testBit j
theorem bits_ok : ∀ (k : Fin 15) (b0 b1 b2 b3 b4 b5 b6 : Bool), ((tb k.val 0 || !b0) && (tb k.val 1 || !b1) && (tb k.val 2 || !b2) && (tb k.val 3 || !b3) && (tb k.val 4 || !b4) && (tb k.val 5 || !b5) && (tb k.val 6 || !b6)) = decide ((0 + bitN b0 1 + bitN b1 2 + bitN b2 4 + bitN b3 8 + bitN b4 16 + bitN b5 32 + bitN b6 64) &&& (127 - namedN k.val) = 0) := by decide +kernel
theorem andNot_ok : ∀ (k : Fin 15) (F : Fin 128), (bits .andNot .i64 (F.val : Int) (namedN k.val : Int) != 0) = !decide (F.val &&& (127 - namedN k.val) = 0) := by decide +kernel
theorem bare_bits (f : Fr.Frame) (s o l c fi d r : Bool) : Fr.bareF f s o l c fi d r ↔ ((s || !hasF f 0) && (o || !hasF f 1) && (l || !hasF f 2) && (c || !hasF f 3) && (fi || !hasF f 4) && (d || !hasF f 5) && (r || !hasF f 6)) = true := by
  have hd : decide (0 < f.data.length) = false ↔ f.data = [] := by
    rw [decide_eq_false_iff_not]
    constructor
    · intro h; exact List.eq_nil_of_length_eq_zero (by omega)
    · intro h; rw [h]; simp
  have hr : decide (0 < f.ranges.length) = false ↔ f.ranges = [] := by
    rw [decide_eq_false_iff_not]
    constructor
    · intro h; exact List.eq_nil_of_length_eq_zero (by omega)
    · intro h; rw [h]; simp
  unfold Fr.bareF
  simp only [Bool.and_eq_true, Bool.or_eq_true, Bool.not_eq_true', hasF, hd, hr, decide_eq_false_iff_not, ne_eq, Decidable.not_not, and_assoc]
theorem fields_bits (f : Fr.Frame) : fieldsN f = 0 + bitN (hasF f 0) 1 + bitN (hasF f 1) 2 + bitN (hasF f 2) 4 + bitN (hasF f 3) 8 + bitN (hasF f 4) 16 + bitN (hasF f 5) 32 + bitN (hasF f 6) 64 := rfl
theorem fields_lt (f : Fr.Frame) : fieldsN f < 128 := bsum_lt _ 7
/-- Has a frame nothing but what its row names? -/
def bareK (f : Fr.Frame) : Prop := fieldsN f &&& (127 - namedN f.kind) = 0
theorem bare_k (f : Fr.Frame) (k : Nat) (hk : f.kind = k) (h : k < 15) : bareK f ↔ Fr.bareF f (tb k 0) (tb k 1) (tb k 2) (tb k 3) (tb k 4) (tb k 5) (tb k 6) := by
  rw [bare_bits, bits_ok ⟨k, h⟩]
  unfold bareK
  rw [hk, fields_bits, decide_eq_true_iff]
def maxN4 (f : Fr.Frame) : Nat := max (max (max f.stream f.offset) f.limit) f.code
/-- What else is asked of a frame of its kind. -/
def extraF (f : Fr.Frame) : Prop := match f.kind with
  | 1 => 1 ≤ f.limit ∧ f.limit ≤ 65536
  | 3 => ackOk f.ranges
  | 6 => f.offset + f.data.length ≤ 4611686018427387903
  | 7 => f.offset + f.data.length ≤ 4611686018427387903
  | 10 => f.limit ≤ 1152921504606846976
  | _ => True
theorem may_split (f : Fr.Frame) (hd : f.data.length ≤ 4194304) : Fr.mayF f ↔ isK f.kind = true ∧ bareK f ∧ maxN4 f ≤ 4611686018427387903 ∧ extraF f := by
  by_cases hk : isK f.kind = true
  · have hK : f.kind ≠ 0 ∧ f.kind < 15 := by unfold isK at hk; simpa using hk
    have hq : f.kind = 1 ∨ f.kind = 2 ∨ f.kind = 3 ∨ f.kind = 4 ∨ f.kind = 5 ∨ f.kind = 6 ∨ f.kind = 7 ∨ f.kind = 8 ∨ f.kind = 9 ∨ f.kind = 10 ∨ f.kind = 11 ∨ f.kind = 12 ∨ f.kind = 13 ∨ f.kind = 14 := by omega
    rcases hq with q | q | q | q | q | q | q | q | q | q | q | q | q | q <;>
    · rw [bare_k f _ q (by omega)]
      unfold Fr.mayF extraF Fr.numsF maxN4
      rw [q]
      simp only [tb, namedN]
      constructor
      · rintro ⟨⟨n1, n2, n3, n4, n5⟩, h⟩
        first
          | exact ⟨by first | exact hk | rfl, h.1, by omega, h.2⟩
          | exact ⟨by first | exact hk | rfl, h, by omega, n5⟩
          | exact ⟨by first | exact hk | rfl, h, by omega, trivial⟩
      · rintro ⟨_, h, hm, hx⟩
        have h5 : f.offset + f.data.length ≤ 4611686018427387903 := by
          first
            | exact hx
            | (have h2 := h.2.1
               rcases h2 with h2 | h2
               · exact absurd h2 (by decide)
               · omega)
        first
          | exact ⟨⟨by omega, by omega, by omega, by omega, h5⟩, h, hx⟩
          | exact ⟨⟨by omega, by omega, by omega, by omega, h5⟩, h⟩
  · constructor
    · intro h
      have := may_kind h
      exact absurd (by unfold isK; simp; omega) hk
    · rintro ⟨h, _⟩
      exact absurd h hk
end Go.Proofs.YtaighdppemnglaaGreatDoor

/-! Single operations, guarded ones among them. No program in sight. -/
namespace Go.Proofs.YtaighdppemnglaaGreatDoor
open Go Go.RowKit

section
variable {F : Fence} {n : Nat} {P : Program} {ops : Array Oper} {Q : Exit → Act → World → Prop} {a : Act} {w : World}
theorem OI_off2 {i : Nat} {K : Act → World → Prop} (h1 : i < ops.size) (hw : Region.wanted ops[i] (yielded ops a.tmps) = false) (hab : ∀ f, ops[i].about P w a.eval = some f → F.fn f) (h : K (a.put ops[i].dst undef) w) : wpOpIn F n P ops Q i K a w := by
  unfold wpOpIn
  simp only [Array.getElem?_eq_getElem h1, hw]
  exact ⟨hab, h⟩
theorem OI_value2 {i : Nat} {K : Act → World → Prop} (h1 : i < ops.size) (hw : Region.wanted ops[i] (yielded ops a.tmps) = true) (hab : ops[i].about P w a.eval = none) (hd : ∀ c, ops[i].op ≠ .defer c) (v : Value) (w' : World)
    (he : (execOp a.eval ops[i]).run P w = .ok (.value v) w') (h : K (a.put ops[i].dst v) w') : wpOpIn F n P ops Q i K a w :=
  OI_value (Array.getElem?_eq_getElem h1) hw hab hd v w' he h
theorem OI_call2 {i : Nat} {K : Act → World → Prop} (h1 : i < ops.size) (hw : Region.wanted ops[i] (yielded ops a.tmps) = true) (hd : ∀ c, ops[i].op ≠ .defer c) (f : Nat) (args : Array Value) (hab : ∀ g, ops[i].about P w a.eval = some g → F.fn g)
    (he : (execOp a.eval ops[i]).run P w = .ok (.enter f args) w) (hn : 1 ≤ n) (hc : CallsIn F (n - 1) P f args w fun e w' => ∃ v, e = .returned v ∧ K (a.put ops[i].dst v) w') : wpOpIn F n P ops Q i K a w :=
  OI_call (Array.getElem?_eq_getElem h1) hw hd f args hab he hn hc
end
section
variable {P : Program} {a : Act} {o : Oper}
theorem run_midR (ty : TypeId) (x : Operand) (g off : Nat) (cs : Array Value) (d : TypeDesc) (ho : o.op = .load ty x) (hx : a.eval x = .pointer (some ⟨g, off, none⟩)) (hu : P.underlying ty = some d) (hd : d.isRow = true) (hi : (P.info? ty).map (·.size) = some cs.size) (W : World) (hc : W.rangeAt g off cs.toList) :
    (execOp a.eval o).run P W = .ok (.value (.agg cs)) W := by
  have h := run_loadAt_mid (P := P) W g off ty cs.toList d hc hu hd (by simpa using hi)
  unfold execOp
  simp only [ho, hx, Sem.run_bind, h, Result.andThen_ok, Sem.run_pure]
theorem run_atR (t e : TypeId) (m : Nat) (x ix : Operand) (g off len cap j : Nat) (ho : o.op = .indexAddr t x ix) (hx : a.eval x = .slice (some ⟨g, off, none⟩) len cap) (hix : a.eval ix = .int .i64 (j : Int))
    (hu : P.underlying t = some (.slice e)) (hi : (P.info? e).map (·.size) = some m) (hj : j < len) (W : World) : (execOp a.eval o).run P W = .ok (.value (.pointer (some ⟨g, off + j * m, none⟩))) W := by
  have hsz : (sizeOf e).run P W = .ok m W := by
    cases hq : P.info? e with
    | none => simp [hq] at hi
    | some i =>
      have : i.size = m := by simpa [hq] using hi
      simp [sizeOf, typeInfo, hq, this]
  unfold execOp
  simp [ho, hx, hix, Instr.indexAt, asIntOf, run_underlying hu, hj, hsz, Addr.add_mid]
theorem run_addU (t t' : TypeId) (x y : Operand) (m r s : Nat) (hs : s = m + r) (hm : s < 18446744073709551616) (ho : o.op = .binOp .add t x y t') (hx : a.eval x = .int .u64 (m : Int)) (hy : a.eval y = .int .u64 (r : Int)) (W : World) :
    (execOp a.eval o).run P W = .ok (.value (.int .u64 (s : Int))) W := by
  have hw : IntKind.u64.wrap ((m : Int) + (r : Int)) = (s : Int) := by rw [IntKind.wrap_u64]; omega
  unfold execOp
  simp only [ho, hx, hy]
  go_simp
theorem run_subU (t t' : TypeId) (x y : Operand) (m r s : Nat) (hs : m = s + r) (hm : m < 18446744073709551616) (ho : o.op = .binOp .sub t x y t') (hx : a.eval x = .int .u64 (m : Int)) (hy : a.eval y = .int .u64 (r : Int)) (W : World) :
    (execOp a.eval o).run P W = .ok (.value (.int .u64 (s : Int))) W := by
  have hw : IntKind.u64.wrap ((m : Int) - (r : Int)) = (s : Int) := by rw [IntKind.wrap_u64]; omega
  unfold execOp
  simp only [ho, hx, hy]
  go_simp
  rw [IntKind.wrap_u64]; omega
theorem run_subI (t t' : TypeId) (x y : Operand) (m r s : Nat) (hs : m = s + r) (hm : m < 9223372036854775808) (ho : o.op = .binOp .sub t x y t') (hx : a.eval x = .int .i64 (m : Int)) (hy : a.eval y = .int .i64 (r : Int)) (W : World) :
    (execOp a.eval o).run P W = .ok (.value (.int .i64 (s : Int))) W := by
  have hw : IntKind.i64.wrap ((m : Int) - (r : Int)) = (s : Int) := by rw [IntKind.wrap_i64]; omega
  unfold execOp
  simp only [ho, hx, hy]
  go_simp
  rw [IntKind.wrap_i64]; omega
theorem run_addI (t t' : TypeId) (x y : Operand) (m r s : Nat) (hs : s = m + r) (hm : s < 9223372036854775808) (ho : o.op = .binOp .add t x y t') (hx : a.eval x = .int .i64 (m : Int)) (hy : a.eval y = .int .i64 (r : Int)) (W : World) :
    (execOp a.eval o).run P W = .ok (.value (.int .i64 (s : Int))) W := by
  have hw : IntKind.i64.wrap ((m : Int) + (r : Int)) = (s : Int) := by rw [IntKind.wrap_i64]; omega
  unfold execOp
  simp only [ho, hx, hy]
  go_simp
theorem run_gtrI (t t' : TypeId) (x y : Operand) (m r : Nat) (b : Bool) (hb : b = decide (r < m)) (ho : o.op = .binOp .gtr t x y t') (hx : a.eval x = .int .i64 (m : Int)) (hy : a.eval y = .int .i64 (r : Int)) (W : World) :
    (execOp a.eval o).run P W = .ok (.value (.bool b)) W := by
  have hd : decide ((r : Int) < (m : Int)) = b := by rw [hb]; simp
  unfold execOp
  simp only [ho, hx, hy]
  go_simp
theorem run_leqU (t t' : TypeId) (x y : Operand) (m r : Nat) (b : Bool) (hb : b = decide (m ≤ r)) (ho : o.op = .binOp .leq t x y t') (hx : a.eval x = .int .u64 (m : Int)) (hy : a.eval y = .int .u64 (r : Int)) (W : World) :
    (execOp a.eval o).run P W = .ok (.value (.bool b)) W := by
  unfold execOp
  simp only [ho, hx, hy]
  go_simp
end
end Go.Proofs.YtaighdppemnglaaGreatDoor

/-! frame.mayBe: may a frame be? -/
namespace Go.Proofs.YtaighdppemnglaaGreatDoor
open Go Go.RowKit

section
variable {F : Fence} {n : Nat} {P : Program} {ops : Array Oper} {Q : Exit → Act → World → Prop} {a : Act} {w : World}
/-- A call that may leave by a panic. -/
theorem OI_callP {o : Oper} {i : Nat} {K : Act → World → Prop} (hi : ops[i]? = some o) (hw : Region.wanted o (yielded ops a.tmps) = true) (hd : ∀ c, o.op ≠ .defer c) (f : Nat) (args : Array Value) (hab : ∀ g, o.about P w a.eval = some g → F.fn g)
    (he : (execOp a.eval o).run P w = .ok (.enter f args) w) (hn : 1 ≤ n) (hc : CallsIn F (n - 1) P f args w fun e w' => (∃ v, e = .returned v ∧ K (a.put o.dst v) w') ∨ ∃ c, e = .panicked c ∧ Q (.panic c) a w') : wpOpIn F n P ops Q i K a w := by
  unfold wpOpIn
  simp only [hi, hw, if_true]
  unfold Oper.wpIn
  refine ⟨hab, ?_⟩
  rw [Oper.semAt_eq _ _ _ hd, he]
  exact ⟨fun _ => hn, hc.mono (by rintro e w' (⟨v, rfl, h⟩ | ⟨c, rfl, h⟩) <;> exact h)⟩
end
theorem run_atG {P : Program} {a : Act} {o : Oper} (t e : TypeId) (n : Nat) (x ix : Operand) (g j : Nat) (ho : o.op = .indexAddr t x ix) (hx : a.eval x = .pointer (some ⟨g, 0, none⟩)) (hix : a.eval ix = .int .u8 (j : Int))
    (hu : P.underlying t = some (.array n e)) (hi : (P.info? e).map (·.size) = some 1) (hj : j < n) (W : World) : (execOp a.eval o).run P W = .ok (.value (.pointer (some ⟨g, j, none⟩))) W := by
  have hsz : (sizeOf e).run P W = .ok 1 W := by
    cases hq : P.info? e with
    | none => simp [hq] at hi
    | some i =>
      have : i.size = 1 := by simpa [hq] using hi
      simp [sizeOf, typeInfo, hq, this]
  unfold execOp
  simp [ho, hx, hix, Instr.indexAt, Instr.sureAddr, asIntOf, run_underlying hu, hj, hsz, Addr.add]
  omega

/-- The table of the fields that each kind names. -/
def Named (w : World) : Prop := ∀ j, j < 15 → w.cell? ⟨0, j, none⟩ = some (.int .i64 (namedN j : Int))
theorem Named.step {w w' : World} (h : Named w) (hb : Below w.heap.size w w') : Named w' := by
  have hp : 0 < w.heap.size := by
    rcases Nat.lt_or_ge 0 w.heap.size with h0 | h0
    · exact h0
    · have := h 0 (by decide)
      simp [World.cell?, Array.getElem?_eq_none h0] at this
  exact fun j hj => (hb.cell (p := ⟨0, j, none⟩) hp).trans (h j hj)

def depMB : Nat → List Nat
  | 1 => [0]
  | 2 => [1]
  | 3 => [2]
  | 4 => [3]
  | 5 => [4]
  | 6 => [4, 5]
  | 7 => [4]
  | 8 => [4, 7]
  | 9 => [4, 8]
  | 10 => [4, 9]
  | 11 => [4, 6, 10]
  | 12 => [4, 11]
  | 13 => [4, 12]
  | _ => []
def valMA (g k : Nat) : Nat → Value
  | 0 => .pointer (some ⟨g, 0, none⟩)
  | 1 => .int .u8 (k : Int)
  | 2 => .bool false
  | 3 => .bool true
  | 4 => .bool true
  | 13 => .bool true
  | _ => undef
def valMB (g : Nat) (f : FrM) : Nat → Value
  | 0 => .pointer (some ⟨g, 0, none⟩)
  | 1 => .int .u8 (f.kind : Int)
  | 2 => .bool true
  | 3 => .bool false
  | 4 => .bool false
  | 5 => .agg f.cells
  | 6 => .int .i64 (fieldsN f.fr : Int)
  | 7 => .pointer (some ⟨g, 0, none⟩)
  | 8 => .int .u8 (f.kind : Int)
  | 9 => .pointer (some ⟨0, f.kind, none⟩)
  | 10 => .int .i64 (namedN f.kind : Int)
  | 11 => .int .i64 (bits .andNot .i64 (fieldsN f.fr : Int) (namedN f.kind : Int))
  | 12 => .bool (bits .andNot .i64 (fieldsN f.fr : Int) (namedN f.kind : Int) != 0)
  | 13 => .bool (bits .andNot .i64 (fieldsN f.fr : Int) (namedN f.kind : Int) != 0)
  | _ => undef

set_option maxRecDepth 20000 in
set_option maxHeartbeats 400000 in
theorem fr_may_no (f : FrM) (w : World) (hf : f.Ok w) (hk : isK f.kind = false) :
    Calls Tryz.prog 76 #[.agg f.cells] w fun e w' => e = .returned (.bool false) ∧ Below w.heap.size w w' := by
  have k8 := hf.k8
  obtain ⟨k, st, of, li, co, fi, da, ra⟩ := f
  have r0 : Row (w.alloc (.cells (FrM.mk k st of li co fi da ra).cells 37)) w.heap.size 37 (FrM.mk k st of li co fi da ra).cells := Row.new _ _ _
  have b0 : Below w.heap.size w (w.alloc (.cells (FrM.mk k st of li co fi da ra).cells 37)) := (Below.refl _ w).alloc (Nat.le_refl _) _
  have hl0 := r0.lt
  have HR0 := veil r0
  have HB0 := veil b0
  have HK := veil hk
  simp only at k8
  clear hf r0 b0 hk
  refine (callsIn_wide (n := 4)).1 ?_
  refine callsIn_of_wp Tryz.func76 rfl trivial ?_ rfl
  simp only [Tryz.ntmps76, List.size_toArray, List.length_cons, List.length_nil, Nat.reduceAdd, Nat.reduceSub, Array.replicate_succ, Array.replicate_zero, List.push_toArray, List.append_toArray, List.nil_append, List.cons_append]
  gi_wp2_with fail
  refine wpIn_region_any (by kernel_rfl) ?_
  refine anyIn_vals2 (w0 := (w.alloc (.cells (FrM.mk k st of li co fi da ra).cells 37))) (valMA w.heap.size k) [3, 4, 5, 6, 7, 8, 9, 10, 11, 12, 13, 14, 15, 16] depMB (by kernel_rfl) rfl (by decide) ((Below.refl _ _).drew) ?step3 ?done3
  case step3 =>
    intro x W ii d hW hdi hdep
    have c0 := (fr_cells (HR0.out.below hW hl0)).1
    simp only at c0
    match ii, hdi, hdep with
    | 0, hdi, _ =>
      obtain rfl := Option.some.inj hdi
      exact OI_value rfl rfl (about_none (by intro c h; cases h)) (by intro c h; cases h) (.pointer (some ⟨w.heap.size, 0, none⟩)) W (by kernel_rfl) ⟨rfl, Below.refl _ _⟩
    | 1, hdi, hdep =>
      obtain rfl := Option.some.inj hdi
      rw [updV_self (hdep 0 (by simp [depMB]))]
      exact OI_value rfl rfl (about_none (by intro c h; cases h)) (by intro c h; cases h) (.int .u8 (k : Int)) W (run_cellF 33 _ ⟨w.heap.size, 0, none⟩ _ _ rfl (by kernel_rfl) Tryz.underlying33 rfl W c0) ⟨rfl, Below.refl _ _⟩
    | 2, hdi, hdep =>
      obtain rfl := Option.some.inj hdi
      rw [updV_self (hdep 1 (by simp [depMB]))]
      refine OI_call rfl rfl (by intro c h; cases h) 29 #[.int .u8 (k : Int)] (fun _ _ => trivial) (by kernel_rfl) (by decide) ?_
      refine (callsIn_wide.2 (fr_kind k W k8)).mono ?_
      rintro e w' ⟨rfl, rfl⟩
      exact ⟨_, rfl, by rw [HK.out]; rfl, Below.refl _ _⟩
    | 3, hdi, hdep =>
      obtain rfl := Option.some.inj hdi
      rw [updV_self (hdep 2 (by simp [depMB]))]
      exact OI_value rfl rfl (about_none (by intro c h; cases h)) (by intro c h; cases h) (.bool true) W (by kernel_rfl) ⟨rfl, Below.refl _ _⟩
    | 4, hdi, hdep =>
      obtain rfl := Option.some.inj hdi
      rw [updV_self (hdep 3 (by simp [depMB]))]
      exact OI_value rfl rfl (about_none (by intro c h; cases h)) (by intro c h; cases h) (.bool true) W (by kernel_rfl) ⟨rfl, Below.refl _ _⟩
    | 5, hdi, hdep =>
      obtain rfl := Option.some.inj hdi
      rw [updV_self (hdep 4 (by simp [depMB]))]
      with_reducible refine OI_off2 ?_ ?_ ?_ ?_
      · decide
      · kernel_rfl
      · exact fun _ _ => trivial
      · exact ⟨rfl, Below.refl _ _⟩
    | 6, hdi, hdep =>
      obtain rfl := Option.some.inj hdi
      rw [updV_self (hdep 4 (by simp [depMB]))]
      with_reducible refine OI_off2 ?_ ?_ ?_ ?_
      · decide
      · kernel_rfl
      · exact fun _ _ => trivial
      · exact ⟨rfl, Below.refl _ _⟩
    | 7, hdi, hdep =>
      obtain rfl := Option.some.inj hdi
      rw [updV_self (hdep 4 (by simp [depMB]))]
      with_reducible refine OI_off2 ?_ ?_ ?_ ?_
      · decide
      · kernel_rfl
      · exact fun _ _ => trivial
      · exact ⟨rfl, Below.refl _ _⟩
    | 8, hdi, hdep =>
      obtain rfl := Option.some.inj hdi
      rw [updV_self (hdep 4 (by simp [depMB]))]
      with_reducible refine OI_off2 ?_ ?_ ?_ ?_
      · decide
      · kernel_rfl
      · exact fun _ _ => trivial
      · exact ⟨rfl, Below.refl _ _⟩
    | 9, hdi, hdep =>
      obtain rfl := Option.some.inj hdi
      rw [updV_self (hdep 4 (by simp [depMB]))]
      with_reducible refine OI_off2 ?_ ?_ ?_ ?_
      · decide
      · kernel_rfl
      · exact fun _ _ => trivial
      · exact ⟨rfl, Below.refl _ _⟩
    | 10, hdi, hdep =>
      obtain rfl := Option.some.inj hdi
      rw [updV_self (hdep 4 (by simp [depMB]))]
      with_reducible refine OI_off2 ?_ ?_ ?_ ?_
      · decide
      · kernel_rfl
      · exact fun _ _ => trivial
      · exact ⟨rfl, Below.refl _ _⟩
    | 11, hdi, hdep =>
      obtain rfl := Option.some.inj hdi
      rw [updV_self (hdep 4 (by simp [depMB]))]
      with_reducible refine OI_off2 ?_ ?_ ?_ ?_
      · decide
      · kernel_rfl
      · exact fun _ _ => trivial
      · exact ⟨rfl, Below.refl _ _⟩
    | 12, hdi, hdep =>
      obtain rfl := Option.some.inj hdi
      rw [updV_self (hdep 4 (by simp [depMB]))]
      with_reducible refine OI_off2 ?_ ?_ ?_ ?_
      · decide
      · kernel_rfl
      · exact fun _ _ => trivial
      · exact ⟨rfl, Below.refl _ _⟩
    | 13, hdi, hdep =>
      obtain rfl := Option.some.inj hdi
      rw [updV_self (hdep 4 (by simp [depMB])), updV_self (show updV x 4 _ 12 = _ from hdep 12 (by simp [depMB]))]
      exact OI_value rfl rfl (about_none (by intro c h; cases h)) (by intro c h; cases h) (.bool true) W (by kernel_rfl) ⟨rfl, Below.refl _ _⟩
    | _ + 14, hdi, _ => simp at hdi
  case done3 =>
    intro W hW
    have bW := veil (HB0.out.trans (hW.mono HB0.out.size))
    simp only [putsV, valMA, Act.put, List.setIfInBounds_toArray, List.set_cons_succ, List.set_cons_zero, Nat.reduceAdd]
    gi_wp2_with fail
    go_ret
    exact ⟨rfl, bW.out⟩
end Go.Proofs.YtaighdppemnglaaGreatDoor

/-! frame.streamNumbers; frame.aheadOfData of a stream's bytes, of padding, of a limit of streams. -/
namespace Go.Proofs.YtaighdppemnglaaGreatDoor
open Go Go.RowKit

/-- A stream's numbers. -/
def strN (f : FrM) : List Nat := if f.offset = 0 then [10 + (if f.fin then 1 else 0), f.stream, f.data.len] else [14 + (if f.fin then 1 else 0), f.stream, f.offset, f.data.len]
theorem or_21 : bits .or .u64 2 1 = 3 := by decide +kernel
theorem or_20 : bits .or .u64 2 0 = 2 := by decide +kernel
theorem or_83 : bits .or .u64 8 3 = 11 := by decide +kernel
theorem or_82 : bits .or .u64 8 2 = 10 := by decide +kernel
theorem or_c3 : bits .or .u64 12 3 = 15 := by decide +kernel
theorem or_c2 : bits .or .u64 12 2 = 14 := by decide +kernel

set_option maxRecDepth 20000 in
set_option maxHeartbeats 1000000 in
theorem fr_strN (f : FrM) (w : World) (hdl : f.data.len ≤ 4194304) :
    Calls Tryz.prog 79 #[.agg f.cells] w fun e w' => ∃ s : NL, e = .returned (.slice s.a s.len s.cap) ∧ s.Ok w' ∧ s.l = strN f ∧ s.len ≤ 4 ∧ Below w.heap.size w w' := by
  have HFN := veil (fun W => fr_fin f W)
  obtain ⟨k, st, of, li, co, fi, da, ra⟩ := f
  simp only at hdl
  have hwl : IntKind.u64.wrap (da.len : Int) = (da.len : Int) := by rw [IntKind.wrap_u64]; omega
  have r0 : Row (w.alloc (.cells (FrM.mk k st of li co fi da ra).cells 37)) w.heap.size 37 (FrM.mk k st of li co fi da ra).cells := Row.new _ _ _
  have b0 : Below w.heap.size w (w.alloc (.cells (FrM.mk k st of li co fi da ra).cells 37)) := (Below.refl _ w).alloc (Nat.le_refl _) _
  have hl0 := r0.lt
  obtain ⟨c0, c1, c2, c3, c4, c5, c6, c7⟩ := fr_cells r0
  simp only at c0 c1 c2 c3 c4 c5 c6 c7
  have HR0 := veil r0
  have HB0 := veil b0
  clear r0 b0
  go_enter Tryz.func79, Tryz.ntmps79
  go_wp2_with fail
  clear c0 c1 c2 c3 c4 c5 c6 c7
  refine (HFN.out _).mono ?_
  rintro e1 w1 ⟨rfl, hb1⟩
  obtain ⟨c0, c1, c2, c3, c4, c5, c6, c7⟩ := fr_cells (HR0.out.below hb1 hl0)
  simp only at c0 c1 c2 c3 c4 c5 c6 c7
  have HB1 := veil (HB0.out.trans (hb1.mono HB0.out.size))
  have o1 := or_21
  have o2 := or_20
  have o3 := or_83
  have o4 := or_82
  have o5 := or_c3
  have o6 := or_c2
  clear hb1
  by_cases h0 : of = 0
  · have f0 : ((of : Int) == 0) = true := by simp; omega
    cases fi
    · have HS := veil (show strN (FrM.mk k st of li co false da ra) = [10, st, da.len] by unfold strN; rw [if_pos h0]; rfl)
      have NLO := veil (nl_lit w1 [10, st, da.len])
      have HB2 := veil (HB1.out.alloc HB1.out.size (.cells (vu [10, st, da.len]).toArray 34))
      clear h0
      go_wp2_with fail
      go_ret
      exact ⟨⟨some ⟨w1.heap.size, 0, none⟩, 3, 3, w1.heap.size, 0, [10, st, da.len]⟩, rfl, NLO.out, HS.out.symm, Nat.le_of_ble_eq_true rfl, HB2.out⟩
    · have HS := veil (show strN (FrM.mk k st of li co true da ra) = [11, st, da.len] by unfold strN; rw [if_pos h0]; rfl)
      have NLO := veil (nl_lit w1 [11, st, da.len])
      have HB2 := veil (HB1.out.alloc HB1.out.size (.cells (vu [11, st, da.len]).toArray 34))
      clear h0
      go_wp2_with fail
      go_ret
      exact ⟨⟨some ⟨w1.heap.size, 0, none⟩, 3, 3, w1.heap.size, 0, [11, st, da.len]⟩, rfl, NLO.out, HS.out.symm, Nat.le_of_ble_eq_true rfl, HB2.out⟩
  · have f0 : ((of : Int) == 0) = false := by simp; omega
    cases fi
    · have HS := veil (show strN (FrM.mk k st of li co false da ra) = [14, st, of, da.len] by unfold strN; rw [if_neg h0]; rfl)
      have NLO := veil (nl_lit w1 [14, st, of, da.len])
      have HB2 := veil (HB1.out.alloc HB1.out.size (.cells (vu [14, st, of, da.len]).toArray 34))
      clear h0
      go_wp2_with fail
      go_ret
      exact ⟨⟨some ⟨w1.heap.size, 0, none⟩, 4, 4, w1.heap.size, 0, [14, st, of, da.len]⟩, rfl, NLO.out, HS.out.symm, Nat.le_of_ble_eq_true rfl, HB2.out⟩
    · have HS := veil (show strN (FrM.mk k st of li co true da ra) = [15, st, of, da.len] by unfold strN; rw [if_neg h0]; rfl)
      have NLO := veil (nl_lit w1 [15, st, of, da.len])
      have HB2 := veil (HB1.out.alloc HB1.out.size (.cells (vu [15, st, of, da.len]).toArray 34))
      clear h0
      go_wp2_with fail
      go_ret
      exact ⟨⟨some ⟨w1.heap.size, 0, none⟩, 4, 4, w1.heap.size, 0, [15, st, of, da.len]⟩, rfl, NLO.out, HS.out.symm, Nat.le_of_ble_eq_true rfl, HB2.out⟩

theorem strN_le (f : FrM) (h1 : f.stream ≤ 4611686018427387903) (h2 : f.offset ≤ 4611686018427387903) (h3 : f.data.len ≤ 4611686018427387903) : ∀ x ∈ strN f, x ≤ 4611686018427387903 := by
  intro x hx
  have hb : (if f.fin then 1 else 0) ≤ 1 := by split <;> omega
  unfold strN at hx
  split at hx
  · simp only [List.mem_cons, List.not_mem_nil, or_false] at hx
    omega
  · simp only [List.mem_cons, List.not_mem_nil, or_false] at hx
    omega

set_option maxRecDepth 20000 in
set_option maxHeartbeats 1000000 in
theorem ahead_7 (f : FrM) (w : World) (hk : f.kind = 7) (hn : Fr.numsF f.fr) (hdl : f.data.len ≤ 4194304) (hL : Lens w) :
    Calls Tryz.prog 25 #[.agg f.cells] w fun e w' => ∃ v, e = .returned v ∧ RowK w.heap.size (numsL (strN f)) w' v ∧ Below w.heap.size w w' := by
  have HFN := veil (fun W => fr_strN f W hdl)
  have HLe := veil (strN_le f hn.1 hn.2.1 (Nat.le_trans hdl (by decide)))
  clear hn
  obtain ⟨F, eF⟩ : ∃ F, F = strN f := ⟨_, rfl⟩
  rw [← eF] at HFN HLe ⊢
  clear eF
  obtain ⟨k, st, of, li, co, fi, da, ra⟩ := f
  simp only at hk hdl
  subst hk
  have hwl : IntKind.u64.wrap (da.len : Int) = (da.len : Int) := by rw [IntKind.wrap_u64]; omega
  have r0 : Row (w.alloc (.cells (FrM.mk 7 st of li co fi da ra).cells 37)) w.heap.size 37 (FrM.mk 7 st of li co fi da ra).cells := Row.new _ _ _
  have b0 : Below w.heap.size w (w.alloc (.cells (FrM.mk 7 st of li co fi da ra).cells 37)) := (Below.refl _ w).alloc (Nat.le_refl _) _
  obtain ⟨c0, c1, c2, c3, c4, c5, c6, c7⟩ := fr_cells r0
  simp only at c0 c1 c2 c3 c4 c5 c6 c7
  have HB0 := veil b0
  have HLn := veil hL
  clear r0 b0 hL
  go_enter Tryz.func25, Tryz.ntmps25
  go_wp2_with fail
  refine (HFN.out _).mono ?_
  rintro e1 w1 ⟨s, rfl, hok, hsl, hs4, hb1⟩
  have HB1 := veil (HB0.out.trans (hb1.mono HB0.out.size))
  have HOK := veil hok
  have HSL := veil hsl
  have HS4 := veil hs4
  clear hb1 hok hsl hs4 c0 c1 c2 c3 c4 c5 c6 c7
  go_wp2_with fail
  refine (fr_nums s w1 HOK.out (by have := HS4.out; omega) (fun j _ => gu_le _ _ (by rw [HSL.out]; exact HLe.out) j) (HLn.out.step HB1.out)).mono ?_
  rintro e2 w2 ⟨v, rfl, hrow, hb2⟩
  have HRow := veil (own_low hrow HB1.out.size)
  have HB2 := veil (HB1.out.trans (hb2.mono HB1.out.size))
  clear hrow hb2
  go_wp2_with fail
  go_ret
  exact ⟨v, rfl, by rw [← HSL.out]; exact HRow.out, HB2.out⟩

theorem made_vb (n : Nat) : (madeCells (Value.int .u8 0).cells (n * 1)).toList = vb (List.replicate n 0) := by
  apply List.ext_getElem
  · simp [madeCells, vb]
  · intro j h1 h2
    simp [madeCells, vb, Value.cells, Nat.mod_one, v8]
set_option maxRecDepth 20000 in
set_option maxHeartbeats 1000000 in
theorem ahead_1 (f : FrM) (w : World) (hk : f.kind = 1) (hl : f.limit ≤ 65536) (hdl : f.data.len ≤ 4194304) :
    Calls Tryz.prog 25 #[.agg f.cells] w fun e w' => ∃ v, e = .returned v ∧ RowK w.heap.size (List.replicate f.limit 0) w' v ∧ Below w.heap.size w w' := by
  obtain ⟨i0, hi, hz0, hz1, hz2⟩ := info_parts Tryz.infoByteV
  obtain ⟨k, st, of, li, co, fi, da, ra⟩ := f
  simp only at hk hdl hl
  subst hk
  have hwl : IntKind.u64.wrap (da.len : Int) = (da.len : Int) := by rw [IntKind.wrap_u64]; omega
  have r0 : Row (w.alloc (.cells (FrM.mk 1 st of li co fi da ra).cells 37)) w.heap.size 37 (FrM.mk 1 st of li co fi da ra).cells := Row.new _ _ _
  have b0 : Below w.heap.size w (w.alloc (.cells (FrM.mk 1 st of li co fi da ra).cells 37)) := (Below.refl _ w).alloc (Nat.le_refl _) _
  obtain ⟨c0, c1, c2, c3, c4, c5, c6, c7⟩ := fr_cells r0
  simp only at c0 c1 c2 c3 c4 c5 c6 c7
  have HB0 := veil b0
  have hbs := b0.size
  clear r0 b0
  go_enter Tryz.func25, Tryz.ntmps25
  go_wp2_with (with_reducible (show wpList _ _ _ (⟨_, Op.makeSlice _ _ _, _, _, _, _⟩ :: _) _ _)
               refine wpList_make_full _ rfl _ _ 26 rfl w.heap.size 5 i0 (.int .u8 0) 1 Tryz.underlying26 hi hz0 hz1 .u64 .u64 (li : Int) (li : Int) li rfl rfl rfl rfl (by rw [hz2]; omega) (by unfold maxLen; omega) hbs ?_
               intro w2 own2 grow2
               rw [made_vb, show (w.alloc (.cells (FrM.mk 1 st of li co fi da ra).cells 37)).heap.size = w.heap.size + 1 by simp] at own2
               have HO2 := veil own2
               have HB2 := veil (HB0.out.grown grow2 HB0.out.size (fun q e => by cases e))
               clear own2 grow2)
  go_ret
  refine ⟨.slice (some ⟨w.heap.size + 1, 0, none⟩) li li, rfl, ?_, HB2.out⟩
  unfold RowK
  rw [List.length_replicate]
  exact HO2.out
end Go.Proofs.YtaighdppemnglaaGreatDoor

/-! frame.aheadOfData of a limit of streams: a region that draws its order. -/
namespace Go.Proofs.YtaighdppemnglaaGreatDoor
open Go Go.RowKit

def finN (f : FrM) : Nat := if f.fin then 1 else 0
theorem or_18 : ∀ (b : Bool), bits .or .u64 18 (if b then 1 else 0) = ((18 + (if b then 1 else 0) : Nat) : Int) := by decide +kernel
def depTen : Nat → List Nat
  | 1 => [0]
  | 2 => [1]
  | 4 => [3]
  | 5 => [2, 4]
  | 6 => [5]
  | 7 => [6]
  | _ => []
/-- What each operation brings about. -/
def genTen (f : FrM) (g base : Nat) : Nat → World → Value → Prop
  | 0, _, v => v = .agg f.cells
  | 1, _, v => v = .int .u64 (if f.fin then 1 else 0)
  | 2, _, v => v = .int .u64 ((18 + finN f : Nat) : Int)
  | 3, _, v => v = .pointer (some ⟨g, 3, none⟩)
  | 4, _, v => v = .int .u64 (f.limit : Int)
  | 5, W, v => ∃ s : NL, v = .slice s.a s.len s.cap ∧ s.Ok W ∧ s.l = [18 + finN f, f.limit] ∧ s.len ≤ 4
  | 6, W, v => RowK base (numsL [18 + finN f, f.limit]) W v
  | _, W, v => RowK base (numsL [18 + finN f, f.limit]) W v
theorem genTen_mono (f : FrM) (g base : Nat) : ∀ j W W' v, Below W.heap.size W W' → genTen f g base j W v → genTen f g base j W' v
  | 0, _, _, _, _, h => h
  | 1, _, _, _, _, h => h
  | 2, _, _, _, _, h => h
  | 3, _, _, _, _, h => h
  | 4, _, _, _, _, h => h
  | 5, _, _, _, hb, ⟨s, h1, h2, h3⟩ => ⟨s, h1, h2.below hb, h3⟩
  | 6, _, _, _, hb, h => own_below h hb
  | _ + 7, _, _, _, hb, h => own_below h hb

set_option maxRecDepth 20000 in
set_option maxHeartbeats 1000000 in
theorem ahead_10 (f : FrM) (w : World) (hk : f.kind = 10) (hl : f.limit ≤ 4611686018427387903) (hdl : f.data.len ≤ 4194304) (hL : Lens w) :
    Calls Tryz.prog 25 #[.agg f.cells] w fun e w' => ∃ v, e = .returned v ∧ RowK w.heap.size (numsL [18 + finN f, f.limit]) w' v ∧ Below w.heap.size w w' := by
  have hwl : IntKind.u64.wrap (f.data.len : Int) = (f.data.len : Int) := by rw [IntKind.wrap_u64]; omega
  have HLe := veil (show ∀ x ∈ [18 + finN f, f.limit], x ≤ 4611686018427387903 by
    intro x hx
    have hb : finN f ≤ 1 := by unfold finN; split <;> omega
    simp only [List.mem_cons, List.not_mem_nil, or_false] at hx
    omega)
  have r0 : Row (w.alloc (.cells f.cells 37)) w.heap.size 37 f.cells := Row.new _ _ _
  have b0 : Below w.heap.size w (w.alloc (.cells f.cells 37)) := (Below.refl _ w).alloc (Nat.le_refl _) _
  have hl0 := r0.lt
  obtain ⟨c0, c1, c2, c3, c4, c5, c6, c7⟩ := fr_cells r0
  have HR0 := veil r0
  have HB0 := veil b0
  have HLn := veil hL
  have n1 : ((f.kind : Int) == 1) = false := by simp; omega
  have n2 : ((f.kind : Int) == 2) = false := by simp; omega
  have n3 : ((f.kind : Int) == 3) = false := by simp; omega
  have n4 : ((f.kind : Int) == 4) = false := by simp; omega
  have n5 : ((f.kind : Int) == 5) = false := by simp; omega
  have n6 : ((f.kind : Int) == 6) = false := by simp; omega
  have n7 : ((f.kind : Int) == 7) = false := by simp; omega
  have n8 : ((f.kind : Int) == 8) = false := by simp; omega
  have n9 : ((f.kind : Int) == 9) = false := by simp; omega
  have n10 : ((f.kind : Int) == 10) = true := by simp; omega
  clear r0 b0 hL hk
  refine (callsIn_wide (n := 4)).1 ?_
  refine callsIn_of_wp Tryz.func25 rfl trivial ?_ rfl
  simp only [Tryz.ntmps25, List.size_toArray, List.length_cons, List.length_nil, Nat.reduceAdd, Nat.reduceSub, Array.replicate_succ, Array.replicate_zero, List.push_toArray, List.append_toArray, List.nil_append, List.cons_append]
  gi_wp2_with fail
  refine wpIn_region_any (by kernel_rfl) ?_
  refine anyIn_gen2 (w0 := (w.alloc (.cells f.cells 37))) (genTen f w.heap.size w.heap.size) (genTen_mono f _ _) [70, 71, 72, 73, 74, 75, 76, 2] depTen (by kernel_rfl) rfl (by decide) ((Below.refl _ _).drew) ?step3 ?done3
  case step3 =>
    intro x W ii d hW hdi hdep
    have rW := HR0.out.below hW hl0
    have bW := HB0.out.trans (hW.mono HB0.out.size)
    match ii, hdi, hdep with
    | 0, hdi, _ =>
      obtain rfl := Option.some.inj hdi
      exact OI_value rfl rfl (about_none (by intro c h; cases h)) (by intro c h; cases h) (.agg f.cells) W (run_midF 37 _ w.heap.size 0 f.cells _ rfl (by kernel_rfl) Tryz.underlying37 rfl (by kernel_rfl) W (range_row rW)) ⟨_, rfl, Below.refl _ _, rfl⟩
    | 1, hdi, hdep =>
      obtain rfl := Option.some.inj hdi
      rw [updV_self (show x 0 = _ from hdep 0 (by simp [depTen]))]
      refine OI_call rfl rfl (by intro c h; cases h) 80 #[.agg f.cells] (fun _ _ => trivial) (by kernel_rfl) (by decide) ?_
      refine (callsIn_wide.2 (fr_fin f W)).mono ?_
      rintro e w' ⟨rfl, hb'⟩
      exact ⟨_, rfl, _, rfl, hb', rfl⟩
    | 2, hdi, hdep =>
      obtain rfl := Option.some.inj hdi
      rw [updV_self (show x 1 = _ from hdep 1 (by simp [depTen]))]
      exact OI_value rfl rfl (about_none (by intro c h; cases h)) (by intro c h; cases h) (.int .u64 (bits .or .u64 18 (if f.fin then 1 else 0))) W (by kernel_rfl) ⟨_, rfl, Below.refl _ _, by rw [or_18]; rfl⟩
    | 3, hdi, _ =>
      obtain rfl := Option.some.inj hdi
      exact OI_value rfl rfl (about_none (by intro c h; cases h)) (by intro c h; cases h) (.pointer (some ⟨w.heap.size, 3, none⟩)) W (by kernel_rfl) ⟨_, rfl, Below.refl _ _, rfl⟩
    | 4, hdi, hdep =>
      obtain rfl := Option.some.inj hdi
      rw [updV_self (show x 3 = _ from hdep 3 (by simp [depTen]))]
      exact OI_value rfl rfl (about_none (by intro c h; cases h)) (by intro c h; cases h) (.int .u64 (f.limit : Int)) W (run_cellF 34 _ ⟨w.heap.size, 3, none⟩ _ _ rfl (by kernel_rfl) Tryz.underlying34 rfl W (fr_cells rW).2.2.2.1) ⟨_, rfl, Below.refl _ _, rfl⟩
    | 5, hdi, hdep =>
      obtain rfl := Option.some.inj hdi
      rw [updV_self (show x 2 = _ from hdep 2 (by simp [depTen])), updV_self (show updV x 2 _ 4 = _ from hdep 4 (by simp [depTen]))]
      refine OI_value rfl rfl (about_none (by intro c h; cases h)) (by intro c h; cases h) (.slice (some ⟨W.heap.size, 0, none⟩) 2 2) (W.alloc (.cells (vu [18 + finN f, f.limit]).toArray 34)) (by kernel_rfl) ⟨_, rfl, (Below.refl _ _).alloc (Nat.le_refl _) _, ?_⟩
      exact ⟨⟨some ⟨W.heap.size, 0, none⟩, 2, 2, W.heap.size, 0, [18 + finN f, f.limit]⟩, rfl, nl_lit W _, rfl, Nat.le_of_ble_eq_true rfl⟩
    | 6, hdi, hdep =>
      obtain rfl := Option.some.inj hdi
      obtain ⟨s, e5, h5, l5, n5⟩ := hdep 5 (by simp [depTen])
      rw [updV_self e5]
      refine OI_call rfl rfl (by intro c h; cases h) 77 #[.slice s.a s.len s.cap] (fun _ _ => trivial) (by kernel_rfl) (by decide) ?_
      refine (callsIn_wide.2 (fr_nums s W h5 (by omega) (fun j _ => gu_le _ _ (by rw [l5]; exact HLe.out) j) (HLn.out.step bW))).mono ?_
      rintro e w' ⟨v, rfl, hrow, hb'⟩
      refine ⟨_, rfl, _, rfl, hb', ?_⟩
      show RowK _ _ _ _
      rw [← l5]
      exact own_low hrow bW.size
    | 7, hdi, hdep =>
      obtain rfl := Option.some.inj hdi
      have h6 := hdep 6 (by simp [depTen])
      generalize hx : x 6 = v at h6
      rw [updV_self hx]
      exact OI_value rfl rfl (about_none (by intro c h; cases h)) (by intro c h; cases h) v W (by kernel_rfl) ⟨_, rfl, Below.refl _ _, h6⟩
    | _ + 8, hdi, _ => simp at hdi
  case done3 =>
    intro x W hW hG
    have bW := veil (HB0.out.trans (hW.mono HB0.out.size))
    have hr := hG 7 (by decide)
    generalize hx : x 7 = v at hr
    have HR := veil (show RowK w.heap.size (numsL [18 + finN f, f.limit]) W v from hr)
    simp only [putsV, Act.put, List.setIfInBounds_toArray, List.set_cons_succ, List.set_cons_zero, Nat.reduceAdd, hx]
    clear hG hr hx
    gi_wp2_with fail
    go_ret
    exact ⟨v, rfl, HR.out, bW.out⟩
end Go.Proofs.YtaighdppemnglaaGreatDoor

/-! The ranges of an answer as numbers and as bytes. No program in sight. -/
namespace Go.Proofs.YtaighdppemnglaaGreatDoor
open Go Go.RowKit

/-- The bytes of ranges, from the last one back, m of them behind the last. -/
def ackU (R : List (Nat × Nat)) : Nat → List By
  | 0 => []
  | m + 1 => ackU R m ++ Fr.numL ((gr R m).1 - (gr R (m + 1)).2 - 2) ++ Fr.numL ((gr R (m + 1)).2 - (gr R (m + 1)).1)
theorem ackU_cons (x y : Nat × Nat) (r : List (Nat × Nat)) : ∀ m, ackU (x :: y :: r) (m + 1) = Fr.numL (x.1 - y.2 - 2) ++ (Fr.numL (y.2 - y.1) ++ ackU (y :: r) m)
  | 0 => by simp [ackU, gr]
  | m + 1 => by
    have e : ackU (x :: y :: r) (m + 1 + 1) = ackU (x :: y :: r) (m + 1) ++ Fr.numL ((gr (x :: y :: r) (m + 1)).1 - (gr (x :: y :: r) (m + 1 + 1)).2 - 2) ++ Fr.numL ((gr (x :: y :: r) (m + 1 + 1)).2 - (gr (x :: y :: r) (m + 1 + 1)).1) := rfl
    rw [e, ackU_cons x y r m]
    have g : ∀ j, gr (x :: y :: r) (j + 1) = gr (y :: r) j := fun j => by simp [gr]
    rw [g, g]
    show _ = Fr.numL (x.1 - y.2 - 2) ++ (Fr.numL (y.2 - y.1) ++ (ackU (y :: r) m ++ Fr.numL ((gr (y :: r) m).1 - (gr (y :: r) (m + 1)).2 - 2) ++ Fr.numL ((gr (y :: r) (m + 1)).2 - (gr (y :: r) (m + 1)).1)))
    simp only [List.append_assoc]
theorem ackU_all : ∀ (r : List (Nat × Nat)) (a b : Nat), ackU ((a, b) :: r) r.length = Fr.ackT a r
  | [], _, _ => rfl
  | (c, d) :: r, a, b => by
    rw [List.length_cons, ackU_cons, ackU_all r c d]
    rfl
theorem gr_reverse (l : List (Nat × Nat)) (j : Nat) (h : j < l.length) : gr l.reverse j = gr l (l.length - 1 - j) := by
  unfold gr
  rw [List.getElem?_reverse h]
/-- All of an answer's bytes. -/
def ackAll (lim : Nat) (l : List (Nat × Nat)) (n m : Nat) : List By := Fr.numL (gr l (n - 1)).2 ++ Fr.numL lim ++ Fr.numL (n - 1) ++ Fr.numL ((gr l (n - 1)).2 - (gr l (n - 1)).1) ++ ackU l.reverse m
theorem ackAll_eq (lim : Nat) (l : List (Nat × Nat)) (h : l ≠ []) : ackAll lim l l.length (l.length - 1) = Fr.ackB lim l.reverse := by
  have hp : 0 < l.length := List.length_pos_iff.2 h
  have e0 := gr_reverse l 0 hp
  rw [Nat.sub_zero] at e0
  unfold ackAll
  rw [← e0]
  have hl : l.length = l.reverse.length := List.length_reverse.symm
  rw [hl]
  cases hr : l.reverse with
  | nil => rw [hr] at hl; simp only [List.length_nil] at hl; omega
  | cons x r =>
    obtain ⟨a, b⟩ := x
    rw [List.length_cons, Nat.add_sub_cancel, ackU_all]
    show _ = Fr.numL b ++ (Fr.numL lim ++ (Fr.numL r.length ++ (Fr.numL (b - a) ++ Fr.ackT a r)))
    simp only [List.append_assoc]
    rfl
theorem ackU_len (R : List (Nat × Nat)) : ∀ m, (ackU R m).length ≤ 16 * m
  | 0 => Nat.zero_le _
  | m + 1 => by
    have := ackU_len R m
    have h1 := Fr.szN_le ((gr R m).1 - (gr R (m + 1)).2 - 2)
    have h2 := Fr.szN_le ((gr R (m + 1)).2 - (gr R (m + 1)).1)
    show (ackU R m ++ _ ++ _).length ≤ _
    rw [List.length_append, List.length_append, Fr.numL_length, Fr.numL_length]
    omega
theorem ackAll_len (lim : Nat) (l : List (Nat × Nat)) (n m : Nat) : (ackAll lim l n m).length ≤ 32 + 16 * m := by
  have h0 := ackU_len l.reverse m
  have h1 := Fr.szN_le (gr l (n - 1)).2
  have h2 := Fr.szN_le lim
  have h3 := Fr.szN_le (n - 1)
  have h4 := Fr.szN_le ((gr l (n - 1)).2 - (gr l (n - 1)).1)
  unfold ackAll
  simp only [List.length_append, Fr.numL_length]
  omega
/-- One range more. -/
theorem ackAll_succ (lim : Nat) (l : List (Nat × Nat)) (m j : Nat) (h : j + 2 + m = l.length) (xs : List By) : xs ++ ackAll lim l l.length m ++ Fr.numL ((gr l (j + 1)).1 - (gr l j).2 - 2) ++ Fr.numL ((gr l j).2 - (gr l j).1) = xs ++ ackAll lim l l.length (m + 1) := by
  have e1 := gr_reverse l m (by omega)
  have e2 := gr_reverse l (m + 1) (by omega)
  rw [show l.length - 1 - m = j + 1 by omega] at e1
  rw [show l.length - 1 - (m + 1) = j by omega] at e2
  unfold ackAll
  rw [ackU, e1, e2]
  simp only [List.append_assoc]
theorem RL.Ok.keep {base : Nat} {w w' : World} {s : RL} (h : s.Ok w) (hk : Keep base w w') (hb : 0 < s.len → s.g < base) : s.Ok w' := h.same (fun p => hk.bel.block _ (hb p)) hk.size
end Go.Proofs.YtaighdppemnglaaGreatDoor
