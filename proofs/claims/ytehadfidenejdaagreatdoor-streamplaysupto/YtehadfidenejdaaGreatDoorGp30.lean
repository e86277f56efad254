/-
  Out of SnRfL, FrTwinR, FrLeftR, HkHelp, ChaTwin, ChaTwinO, FrLis, RgSet, FrToolsT.
-/
import Derived.Test.YtehadfidenejdaaGreatDoorGp29
import Derived.Test.YtehadfidenejdaaGreatDoorGp1
import Derived.Test.YtehadfidenejdaaGreatDoorRows
import Derived.Test.YtehadfidenejdaaGreatDoorGp15
import Derived.WalkKit
import Derived.WalkSpells
import Derived.WalkLawsBesides
import Derived.Test.YtehadfidenejdaaGreatDoorGp16
import Derived.Deep.MidRow
import Derived.Test.YtehadfidenejdaaGreatDoorGp2
import Derived.BigQuiet

/-! The document's sender: the next frame, of any sender. -/
namespace Go.Proofs.YtehadfidenejdaaGreatDoor
open Go Go.RowKit

namespace Sr
open Sd
theorem refTake_any {w : World} {h : Nat} {s : Snd} {own : Nat → Prop} (x : RfS w h s own) (n : Int) (fr : Nat) (hn : n ≤ 9223372036854775807) (hfr : fr ≤ 18446744073709551615) :
    Calls Tryz.prog 16 #[.pointer (some ⟨h, 0, none⟩), .int .i64 n, .int .u64 (fr : Int)] w fun e w' => RTakeP w w' h s own n fr e := by
  by_cases hno : s.reset = true ∨ n < 0
  · exact refTake_no x n fr hno
  · obtain ⟨k, rfl⟩ := Int.eq_ofNat_of_zero_le (show 0 ≤ n by omega)
    exact refTake_live x k fr (by omega) hfr (by simpa using fun q => hno (.inl q))
end Sr
end Go.Proofs.YtehadfidenejdaaGreatDoor

/-! What the statements' helper TwinRanges does to memory. -/
namespace Go.Proofs.YtehadfidenejdaaGreatDoor
open Go Go.RowKit

theorem vr_take {l : List (Nat × Nat)} {k : Nat} (h : k < l.length) : vr (l.take k) ++ [.int .u64 ((gr l k).1 : Int), .int .u64 ((gr l k).2 : Int)] = vr (l.take (k + 1)) := by
  rw [List.take_succ_eq_append_getElem h, vr_append]
  congr 1
  unfold gr
  rw [List.getElem?_eq_getElem h]
  rfl
theorem cells_two {w : World} {g : Nat} {t : TypeId} {x y : Value} (h : Row w g t #[x, y]) : ∀ j u, ([x, y] : List Value)[j]? = some u → w.cell? ((⟨g, 0, none⟩ : Addr).add j) = some u := by
  intro j u hj
  rw [add_at, Nat.zero_add]
  match j, hj with
  | 0, hj => exact (h.cell 0).trans hj
  | 1, hj => exact (h.cell 1).trans hj

set_option maxRecDepth 20000 in
set_option maxHeartbeats 400000 in
theorem twin_rl (q : RL) (w : World) (hq : q.Ok w) (hl : q.len ≤ 1048576) :
    Calls Tryz.prog 35 #[.slice q.a q.len q.cap] w fun e w' => e = .returned (.slice (some ⟨w.heap.size, 0, none⟩) q.len (q.len + 1)) ∧
      w'.ownsRow w.heap.size 93 2 (.slice (some ⟨w.heap.size, 0, none⟩) (q.len + 1) (q.len + 1)) (q.len + 1) (vr (q.l ++ [(77, 0)])) ∧ Below w.heap.size w w' := by
  obtain ⟨i0, hi, hz0, hz1, hz2⟩ := range_info
  obtain ⟨a, len, cap, g, off, l⟩ := q
  have HQ := veil hq
  have HZ : Hid (l.length = len) := hq.hb
  simp only at hl
  have hb1 : i0.bytes * (len + 1) ≤ 281474976710656 := by rw [hz2]; omega
  have hb2 : len + 1 ≤ maxLen := by unfold maxLen; omega
  clear hq
  go_enter Tryz.func35, Tryz.ntmps35
  go_wp2_with (at_make; refine wpList_make_own _ rfl _ _ 26 rfl w.heap.size 93 i0 (.agg (rC2 (0, 0))) 2 Tryz.underlying26 hi hz0 hz1 .i64 .i64 _ (len + 1) rfl rfl (by omega) hb1 hb2 (Nat.le_refl _) ?_; intro w1 hown1 hgrow1)
  clear hb1 hb2
  have hbel1 : Below w.heap.size w w1 := (Below.refl _ _).grown hgrow1 (Nat.le_refl _) (fun k e => by cases e)
  have O1 := veil hown1
  have B1 := veil hbel1
  clear hgrow1 hown1 hbel1
  go_loopw [3, 4] (fun t i wr => ∃ k : Nat, k ≤ len ∧ i = .int .i64 k ∧ t = .slice (some ⟨w.heap.size, 0, none⟩) k (len + 1) ∧
      wr.ownsRow w.heap.size 93 2 (.slice (some ⟨w.heap.size, 0, none⟩) k (len + 1)) k (vr (l.take k)) ∧ Below w.heap.size w wr)
    (fun _ i _ => len - (intOf i).toNat)
  case atStart => exact ⟨0, Nat.zero_le _, rfl, rfl, O1.out, B1.out⟩
  case round =>
    obtain ⟨k, hk, rfl, rfl, hown, hbel⟩ := hrel
    have HO := veil hown
    have HB := veil hbel
    have hsz := hbel.size
    clear O1 B1 hown
    by_cases hlt : k < len
    · have e1 : a = some ⟨g, off, none⟩ := HQ.out.at_ (show 0 < len by omega)
      subst e1
      obtain ⟨c1, c2⟩ := (HQ.out.below hbel).cell k hlt
      simp only at c1 c2
      have hle : k + 1 ≤ len + 1 := by omega
      clear hbel
      go_wp2_with (at_builtin; refine wpList_append_fits _ rfl _ _ 26 rfl w.heap.size 93 i0 2 Tryz.underlying26 hi hz1 w.heap.size k (len + 1) _ rfl (HO.out.alloc _) ⟨wr.heap.size, 0, none⟩ 1 1 [.int .u64 ((gr l k).1 : Int), .int .u64 ((gr l k).2 : Int)] rfl rfl (cells_two (Row.new _ _ _)) (by simp [Value.oneCell']) hle ?_; intro w2 hown2 hgrow2)
      have B2 := veil (show Below w.heap.size w w2 from (HB.out.alloc hsz _).grown hgrow2 (by simp; omega) (fun k e => by cases e; exact Nat.le_refl _))
      rw [vr_take (by rw [HZ.out]; exact hlt)] at hown2
      have O2 := veil hown2
      clear hgrow2 hown2 c1 c2
      go_wp2
      go_roundw
      case rel => exact ⟨k + 1, by omega, by go_num, rfl, O2.out, B2.out⟩
      case measure => simp [intOf]; omega
    · obtain rfl : k = len := by omega
      have O3 := veil (show wr.ownsRow w.heap.size 93 2 (.slice (some ⟨w.heap.size, 0, none⟩) k (k + 1)) k (vr l) by
        have := HO.out
        rw [List.take_of_length_le (by rw [HZ.out]; exact Nat.le_refl _)] at this
        exact this)
      clear hbel HO
      go_wp2_with (at_builtin; refine wpList_append_fits _ rfl _ _ 26 rfl w.heap.size 93 i0 2 Tryz.underlying26 hi hz1 w.heap.size k (k + 1) _ rfl (O3.out.alloc _) ⟨wr.heap.size, 0, none⟩ 1 1 [.int .u64 77, .int .u64 0] rfl rfl (cells_two (Row.new _ _ _)) (by simp [Value.oneCell']) (Nat.le_refl _) ?_; intro w2 hown2 hgrow2)
      have B2 := veil (show Below w.heap.size w w2 from (HB.out.alloc hsz _).grown hgrow2 (by simp; omega) (fun k e => by cases e; exact Nat.le_refl _))
      have O2 := veil (show w2.ownsRow w.heap.size 93 2 (.slice (some ⟨w.heap.size, 0, none⟩) (k + 1) (k + 1)) (k + 1) (vr (l ++ [(77, 0)])) by rw [vr_append]; exact hown2)
      clear hgrow2 hown2
      go_wp2
      go_ret
      exact ⟨rfl, O2.out, B2.out⟩
end Go.Proofs.YtehadfidenejdaaGreatDoor

/-! What the statements' helper LeftRanges answers of a copy that is kept. -/
namespace Go.Proofs.YtehadfidenejdaaGreatDoor
open Go Go.RowKit

/-- A copy of ranges, with its mark behind. -/
structure TwinR (w : World) (g : Nat) (l : List (Nat × Nat)) : Prop where
  lt : g < w.heap.size
  cell : ∀ j : Nat, j < l.length → w.cell? ⟨g, j * 2, none⟩ = some (.int .u64 ((gr l j).1 : Int)) ∧ w.cell? ⟨g, j * 2 + 1, none⟩ = some (.int .u64 ((gr l j).2 : Int))
  mark : w.cell? ⟨g, l.length * 2, none⟩ = some (.int .u64 77) ∧ w.cell? ⟨g, l.length * 2 + 1, none⟩ = some (.int .u64 0)
theorem TwinR.below {w w' : World} {g : Nat} {l : List (Nat × Nat)} (h : TwinR w g l) (hb : Below w.heap.size w w') : TwinR w' g l :=
  ⟨Nat.lt_of_lt_of_le h.lt hb.size, fun j hj => ⟨(hb.cell (p := ⟨g, j * 2, none⟩) h.lt).trans (h.cell j hj).1, (hb.cell (p := ⟨g, j * 2 + 1, none⟩) h.lt).trans (h.cell j hj).2⟩, ⟨(hb.cell (p := ⟨g, l.length * 2, none⟩) h.lt).trans h.mark.1, (hb.cell (p := ⟨g, l.length * 2 + 1, none⟩) h.lt).trans h.mark.2⟩⟩
theorem TwinR.of_own {w : World} {base g n : Nat} {l : List (Nat × Nat)} (h : w.ownsRow base 93 2 (.slice (some ⟨g, 0, none⟩) (n + 1) (n + 1)) (n + 1) (vr (l ++ [(77, 0)]))) : TwinR w g l := by
  have hlt := (h.lt g rfl).2
  have hc : ∀ j u, (vr (l ++ [(77, 0)]))[j]? = some u → w.cell? ⟨g, j, none⟩ = some u := fun j u hu => by
    have := h.cells (g := g) rfl j u hu
    rw [add_at, Nat.zero_add] at this
    exact this
  have hg : ∀ j, j < l.length → gr (l ++ [(77, 0)]) j = gr l j := fun j hj => by
    unfold gr
    rw [List.getElem?_append_left hj]
  have hm : gr (l ++ [(77, 0)]) l.length = (77, 0) := by
    unfold gr
    simp
  refine ⟨hlt, fun j hj => ?_, ?_⟩
  · have := vr_at (l ++ [(77, 0)]) j (by rw [List.length_append]; exact Nat.lt_of_lt_of_le hj (Nat.le_add_right _ _))
    rw [hg j hj] at this
    exact ⟨hc _ _ this.1, hc _ _ this.2⟩
  · have := vr_at (l ++ [(77, 0)]) l.length (by simp)
    rw [hm] at this
    exact ⟨hc _ _ this.1, hc _ _ this.2⟩

set_option maxRecDepth 20000 in
set_option maxHeartbeats 400000 in
theorem left_rl (q : RL) (g : Nat) (w : World) (hq : q.Ok w) (hl : q.len ≤ 1048576) (ht : TwinR w g q.l) :
    Calls Tryz.prog 51 #[.slice (some ⟨g, 0, none⟩) q.len (q.len + 1), .slice q.a q.len q.cap] w fun e w' => e = .returned (.bool true) ∧ Below w.heap.size w w' := by
  obtain ⟨a, len, cap, gq, off, l⟩ := q
  have hz : l.length = len := hq.hb
  simp only at hl ht
  have HQ := veil hq
  have HT := veil ht
  have HZ := veil hz
  clear hq ht hz
  have h1 : ((len : Int) != (len : Int)) = false := by simp
  have h2 : ¬ ((len : Int) + 1 ≤ (len : Int)) := by omega
  go_enter Tryz.func51, Tryz.ntmps51
  go_wp2
  go_loopw [5] (fun i wr => ∃ k : Nat, k ≤ len ∧ i = .int .i64 k ∧ Below w.heap.size w wr)
    (fun i _ => len - (intOf i).toNat)
  case atStart => exact ⟨0, Nat.zero_le _, rfl, Below.refl _ _⟩
  case round =>
    obtain ⟨k, hk, rfl, hbel⟩ := hrel
    by_cases hlt : k < len
    · have e2 : a = some ⟨gq, off, none⟩ := HQ.out.at_ (show 0 < len by omega)
      subst e2
      obtain ⟨c1, c2⟩ := (HT.out.below hbel).cell k (by rw [HZ.out]; exact hlt)
      obtain ⟨c3, c4⟩ := (HQ.out.below hbel).cell k hlt
      simp only at c1 c2 c3 c4
      generalize ((gr l k).1 : Int) = y at *
      generalize ((gr l k).2 : Int) = z at *
      go_wp2
      go_quiet (fail)
      go_wp2
      go_roundw
      case rel => exact ⟨k + 1, by omega, by go_num, below_drewN hbel _⟩
      case measure => simp [intOf]; omega
    · obtain rfl : len = k := by omega
      obtain ⟨c1, c2⟩ := (HT.out.below hbel).mark
      rw [HZ.out] at c1 c2
      have B := veil (fun o => hbel.alloc hbel.size o)
      clear hbel
      go_wp2
      go_ret
      exact ⟨rfl, B.out _⟩
end Go.Proofs.YtehadfidenejdaaGreatDoor

/-! What the statements' helpers TwinBytes and LeftBytes do to memory, for 140737488351232 bytes at most. -/
namespace Go.Proofs.YtehadfidenejdaaGreatDoor
open Go.RowKit

/-- Where bytes lie that are read: they are none, or a row of cells. -/
def Lies (w : World) (a : Option Addr) (zs : List Int) : Prop :=
  zs = [] ∨ ∃ b off, a = some ⟨b, off, none⟩ ∧ b < w.heap.size ∧ ∀ j : Nat, j < zs.length → w.cell? ⟨b, off + j, none⟩ = some (.int .u8 (zs[j]?.getD 0))

theorem Tryz.infoByte : (Tryz.prog.info? 5).map (fun i => (i.zero, i.size, i.bytes)) = some (some (.int .u8 0), 1, 1) := by kernel_rfl

/-- What is copied: a row of its own, with a mark behind. -/
def twin (zs : List Int) : List Value := (zs ++ [77]).map (Value.int .u8)

theorem twin_take {zs : List Int} {k : Nat} (h : k < zs.length) : (zs.take k).map (Value.int .u8) ++ [.int .u8 (zs[k]?.getD 0)] = (zs.take (k + 1)).map (Value.int .u8) := by
  rw [List.take_succ_eq_append_getElem h, List.map_append]
  congr 1
  simp [h]

set_option maxHeartbeats 1000000 in
theorem twin_any (a : Option Addr) (len cap : Nat) (zs : List Int) (w : World) (hz : zs.length = len) (hl : len ≤ 140737488351232) (hL : Lies w a zs) :
    Calls Tryz.prog 11 #[.slice a len cap] w fun e w' => ∃ g, e = .returned (.slice (some ⟨g, 0, none⟩) len (len + 1)) ∧
      w'.ownsRow w.heap.size 5 1 (.slice (some ⟨g, 0, none⟩) (len + 1) (len + 1)) (len + 1) (twin zs) ∧ Below w.heap.size w w' := by
  obtain ⟨i0, hi, hz0, hz1, hz2⟩ := info_parts Tryz.infoByte
  have HL : Hid (Lies w a zs) := hL
  have HZ : Hid (zs.length = len) := hz
  have hb1 : i0.bytes * (len + 1) ≤ 281474976710656 := by rw [hz2]; omega
  have hb2 : len + 1 ≤ maxLen := by unfold maxLen; omega
  clear hL hz
  go_enter Tryz.func11, Tryz.ntmps11
  go_wp2_with (at_make; refine wpList_make_own _ rfl _ _ 24 rfl w.heap.size 5 i0 (.int .u8 0) 1 Tryz.underlying24 hi hz0 hz1 .i64 .i64 _ (len + 1) rfl rfl (by omega) hb1 hb2 (Nat.le_refl _) ?_; intro w1 hown1 hgrow1)
  clear hb1 hb2
  have hbel1 : Below w.heap.size w w1 := (Below.refl _ _).grown hgrow1 (Nat.le_refl _) (fun k e => by cases e)
  clear hgrow1
  go_loopw [3, 4] (fun t i wr => ∃ k : Nat, k ≤ len ∧ i = .int .i64 k ∧ t = .slice (some ⟨w.heap.size, 0, none⟩) k (len + 1) ∧
      wr.ownsRow w.heap.size 5 1 (.slice (some ⟨w.heap.size, 0, none⟩) k (len + 1)) k ((zs.take k).map (Value.int .u8)) ∧ Below w.heap.size w wr)
    (fun _ i _ => len - (intOf i).toNat)
  case atStart => exact ⟨0, Nat.zero_le _, rfl, rfl, by simpa using hown1, hbel1⟩
  case round =>
    obtain ⟨k, hk, rfl, rfl, hown, hbel⟩ := hrel
    clear hown1 hbel1
    by_cases hlt : k < len
    · rcases HL.out with h0 | ⟨b, off, ha, hb, hcell⟩
      · have := HZ.out; rw [h0] at this; simp at this; omega
      · subst ha
        have hcx : wr.cell? ⟨b, off + k, none⟩ = some (.int .u8 (zs[k]?.getD 0)) := (hbel.cell (by exact hb)).trans (hcell k (by rw [HZ.out]; exact hlt))
        clear hcell
        go_wp2_with (at_builtin; refine wpList_append_fits _ rfl _ _ 24 rfl w.heap.size 5 i0 1 Tryz.underlying24 hi hz1 w.heap.size k (len + 1) _ rfl (hown.alloc _) ⟨wr.heap.size, 0, none⟩ 1 1 [.int .u8 (zs[k]?.getD 0)] rfl rfl (cell_one_new _ _ _) (by simp [Value.oneCell']) (by omega) ?_; intro w2 hown2 hgrow2)
        have hbel2 : Below w.heap.size w w2 := (hbel.alloc hbel.size _).grown hgrow2 (by have := hbel.size; simp; omega) (fun k e => by cases e; exact Nat.le_refl _)
        rw [twin_take (by rw [HZ.out]; exact hlt)] at hown2
        clear hgrow2 hown
        go_wp2
        go_roundw
        case rel => exact ⟨k + 1, by omega, by go_num, rfl, hown2, hbel2⟩
        case measure => simp [intOf]; omega
    · have hkl : k = len := by omega
      subst hkl
      have hown3 : wr.ownsRow w.heap.size 5 1 (.slice (some ⟨w.heap.size, 0, none⟩) k (k + 1)) k (zs.map (Value.int .u8)) := by
        have := hown; rw [List.take_of_length_le (by rw [HZ.out]; exact Nat.le_refl _)] at this; exact this
      clear hown
      go_wp2_with (at_builtin; refine wpList_append_fits _ rfl _ _ 24 rfl w.heap.size 5 i0 1 Tryz.underlying24 hi hz1 w.heap.size k (k + 1) _ rfl (hown3.alloc _) ⟨wr.heap.size, 0, none⟩ 1 1 [.int .u8 77] rfl rfl (cell_one_new _ _ _) (by simp [Value.oneCell']) (by omega) ?_; intro w2 hown2 hgrow2)
      have hbel2 : Below w.heap.size w w2 := (hbel.alloc hbel.size _).grown hgrow2 (by have := hbel.size; simp; omega) (fun k e => by cases e; exact Nat.le_refl _)
      clear hgrow2 hown3
      go_wp2
      go_ret
      exact ⟨_, rfl, by simpa [twin] using hown2, hbel2⟩

/-- The cells of a copy that is kept. -/
theorem twin_cells {w : World} {base g len : Nat} {zs : List Int} (hz : zs.length = len) (h : w.ownsRow base 5 1 (.slice (some ⟨g, 0, none⟩) (len + 1) (len + 1)) (len + 1) (twin zs)) :
    g < w.heap.size ∧ base ≤ g ∧ (∀ j : Nat, j < len → w.cell? ⟨g, j, none⟩ = some (.int .u8 (zs[j]?.getD 0))) ∧ w.cell? ⟨g, len, none⟩ = some (.int .u8 77) := by
  obtain ⟨h1, h2⟩ := h.lt g rfl
  refine ⟨h2, h1, fun j hj => ?_, ?_⟩
  · rw [h.cellAt j (by omega)]
    unfold twin
    rw [List.getElem?_map, List.getElem?_append_left (by omega)]
    simp [show j < zs.length by omega]
  · rw [h.cellAt len (by omega)]
    unfold twin
    rw [List.getElem?_map, List.getElem?_append_right (by omega)]
    simp [hz]

set_option maxHeartbeats 1000000 in
theorem left_any (g : Nat) (a : Option Addr) (len cap : Nat) (zs : List Int) (w : World) (hz : zs.length = len) (hl : len ≤ 140737488351232) (hL : Lies w a zs) (hg : g < w.heap.size)
    (hT : ∀ j : Nat, j < len → w.cell? ⟨g, j, none⟩ = some (.int .u8 (zs[j]?.getD 0))) (h77 : w.cell? ⟨g, len, none⟩ = some (.int .u8 77)) :
    Calls Tryz.prog 13 #[.slice (some ⟨g, 0, none⟩) len (len + 1), .slice a len cap] w fun e w' => e = .returned (.bool true) ∧ Below w.heap.size w w' := by
  have HL : Hid (Lies w a zs) := hL
  have HZ : Hid (zs.length = len) := hz
  have HT := fun j hj => hT j hj
  have H77 : Hid (w.cell? ⟨g, len, none⟩ = some (.int .u8 77)) := h77
  have h1 : ((len : Int) != (len : Int)) = false := by simp
  have h2 : ¬ ((len : Int) + 1 ≤ (len : Int)) := by omega
  clear hL hz hT h77
  go_enter Tryz.func13, Tryz.ntmps13
  go_wp2
  go_loopw [5] (fun i wr => ∃ k : Nat, k ≤ len ∧ i = .int .i64 k ∧ Below w.heap.size w wr)
    (fun i _ => len - (intOf i).toNat)
  case atStart => exact ⟨0, Nat.zero_le _, rfl, Below.refl _ _⟩
  case round =>
    obtain ⟨k, hk, rfl, hbel⟩ := hrel
    by_cases hlt : k < len
    · rcases HL.out with h0 | ⟨b, off, ha, hb, hcell⟩
      · have := HZ.out; rw [h0] at this; simp at this; omega
      · subst ha
        have hcx : wr.cell? ⟨b, off + k, none⟩ = some (.int .u8 (zs[k]?.getD 0)) := (hbel.cell (by exact hb)).trans (hcell k (by rw [HZ.out]; exact hlt))
        have hcy : wr.cell? ⟨g, k, none⟩ = some (.int .u8 (zs[k]?.getD 0)) := (hbel.cell (by exact hg)).trans (HT k hlt)
        clear hcell HT
        go_wp2
        go_region
        all_goals go_wp2
        all_goals
          go_roundw
          case rel => exact ⟨k + 1, by omega, by go_num, hbel.drew⟩
          case measure => simp [intOf]; omega
    · have hkl : k = len := by omega
      subst hkl
      have hc7 : wr.cell? ⟨g, k, none⟩ = some (.int .u8 77) := (hbel.cell (by exact hg)).trans H77.out
      go_wp2
      go_ret
      exact ⟨rfl, hbel⟩
/-- The cells of bytes, as numbers. -/
def nums (b : List By) : List Int := b.map v8
theorem nums_length (b : List By) : (nums b).length = b.length := by simp [nums]
theorem nums_get (b : List By) (j : Nat) (h : j < b.length) : (nums b)[j]?.getD 0 = v8 (gb b j) := by
  unfold nums gb
  rw [List.getElem?_map, List.getElem?_eq_getElem h]
  rfl
theorem lies_of {w : World} {a : Option Addr} {g off len : Nat} {b : List By} (hb : b.length = len) (ha : 0 < len → a = some ⟨g, off, none⟩) (hgl : 0 < len → g < w.heap.size) (hc : ∀ j : Nat, j < len → w.cell? ⟨g, off + j, none⟩ = some (.int .u8 (v8 (gb b j)))) : Lies w a (nums b) := by
  by_cases h : 0 < len
  · refine .inr ⟨g, off, ha h, hgl h, fun j hj => ?_⟩
    rw [nums_length, hb] at hj
    rw [hc j hj, nums_get b j (by omega)]
  · left
    obtain rfl : b = [] := List.eq_nil_of_length_eq_zero (by omega)
    rfl
end Go.Proofs.YtehadfidenejdaaGreatDoor

/-! What TwinBytes and LeftBytes do with slices. Cut out of HkLaw.lean. -/
namespace Go.Proofs.YtehadfidenejdaaGreatDoor
open Go Go.RowKit

/-- A copy with a mark behind it. -/
structure Twin (w : World) (g : Nat) (b : List By) : Prop where
  lt : g < w.heap.size
  cell : ∀ j : Nat, j < b.length → w.cell? ⟨g, j, none⟩ = some (.int .u8 (v8 (gb b j)))
  mark : w.cell? ⟨g, b.length, none⟩ = some (.int .u8 77)
theorem Twin.below {w w' : World} {g : Nat} {b : List By} (h : Twin w g b) (hb : Below w.heap.size w w') : Twin w' g b :=
  ⟨Nat.lt_of_lt_of_le h.lt hb.size, fun j hj => (hb.cell (p := ⟨g, j, none⟩) h.lt).trans (h.cell j hj), (hb.cell (p := ⟨g, b.length, none⟩) h.lt).trans h.mark⟩
def twinS (g n : Nat) (b : List By) : SL := ⟨some ⟨g, 0, none⟩, n, n + 1, g, 0, b⟩
theorem Twin.ok {w : World} {g n : Nat} {b : List By} (h : Twin w g b) (hn : b.length = n) : (twinS g n b).Ok w := by
  subst hn
  refine ⟨rfl, (by show b.length ≤ b.length + 1; omega), fun e => by simp [twinS] at e, fun _ => rfl, fun _ => h.lt, fun j hj => ?_⟩
  show w.cell? ⟨g, 0 + j, none⟩ = _
  rw [Nat.zero_add]
  exact h.cell j hj
theorem left_sl (q : SL) (g : Nat) (w : World) (hq : q.Ok w) (hl : q.len ≤ 8388608) (ht : Twin w g q.b) :
    Calls Tryz.prog 13 #[.slice (some ⟨g, 0, none⟩) q.len (q.len + 1), .slice q.a q.len q.cap] w fun e w' => e = .returned (.bool true) ∧ Below w.heap.size w w' :=
  left_any g q.a q.len q.cap (nums q.b) w (by rw [nums_length, hq.hb]) (by omega) (lies_of hq.hb hq.at_ hq.lt hq.cell) ht.lt (fun j hj => by rw [ht.cell j (by rw [hq.hb]; exact hj), nums_get q.b j (by rw [hq.hb]; exact hj)]) (by have := ht.mark; rw [hq.hb] at this; exact this)

end Go.Proofs.YtehadfidenejdaaGreatDoor

/-! The law's copy as a row of its own; three lists apart. -/
namespace Go.Proofs.YtehadfidenejdaaGreatDoor
open Go Go.RowKit

theorem own_cut {w : World} {base g n : Nat} {xs ys : List Value} (h : w.ownsRow base 5 1 (.slice (some ⟨g, 0, none⟩) (n + 1) (n + 1)) (n + 1) (xs ++ ys)) (hx : xs.length = n) : w.ownsRow base 5 1 (.slice (some ⟨g, 0, none⟩) n (n + 1)) n xs := by
  obtain ⟨_, h2⟩ := h
  rcases h2 with ⟨e, _⟩ | ⟨g', cap, cur, e, hg, hh, _, hm, hs, ht⟩
  · cases e
  · simp only [Value.slice.injEq, Option.some.injEq, Addr.mk.injEq] at e
    obtain ⟨⟨rfl, _⟩, _, rfl⟩ := e
    refine ⟨by rw [hx, Nat.mul_one], .inr ⟨g, n + 1, cur, rfl, hg, hh, by omega, hm, hs, ?_⟩⟩
    rw [Nat.mul_one] at ht
    have h3 := congrArg (List.take n) ht
    rw [List.take_take, show min n (n + 1) = n by omega, List.take_append_of_le_length (by omega), List.take_of_length_le (l := xs) (by omega)] at h3
    rw [Nat.mul_one]
    exact h3
theorem twin_own (q : SL) (w : World) (hq : q.Ok w) (hl : q.len ≤ 8388608) :
    Calls Tryz.prog 11 #[.slice q.a q.len q.cap] w fun e w' => ∃ g, e = .returned (.slice (some ⟨g, 0, none⟩) q.len (q.len + 1)) ∧ Twin w' g q.b ∧ w'.ownsRow w.heap.size 5 1 (.slice (some ⟨g, 0, none⟩) q.len (q.len + 1)) q.len (vb q.b) ∧ Below w.heap.size w w' := by
  refine (twin_any q.a q.len q.cap (nums q.b) w (by rw [nums_length, hq.hb]) (by omega) (lies_of hq.hb hq.at_ hq.lt hq.cell)).mono ?_
  rintro e w1 ⟨g, rfl, hown, hb⟩
  obtain ⟨h1, h2, h3, h4⟩ := twin_cells (by rw [nums_length, hq.hb]) hown
  refine ⟨g, rfl, ⟨h1, fun j hj => by rw [h3 j (by rw [← hq.hb]; exact hj), nums_get q.b j hj], by rw [hq.hb]; exact h4⟩, ?_, hb⟩
  have e1 : twin (nums q.b) = vb q.b ++ [.int .u8 77] := by
    unfold twin nums vb
    simp
  rw [e1] at hown
  exact own_cut hown (by rw [vb_length, hq.hb])
end Go.Proofs.YtehadfidenejdaaGreatDoor

/-! Lists of frames in memory. -/
namespace Go.Proofs.YtehadfidenejdaaGreatDoor
open Go Go.RowKit

section
variable {P : Program} {a : Act} {o : Oper}
end
def f0M : FrM := ⟨0, 0, 0, 0, 0, false, ⟨none, 0, 0, 0, 0, []⟩, ⟨none, 0, 0, 0, 0, []⟩⟩
def gf (l : List FrM) (j : Nat) : FrM := l[j]?.getD f0M
/-- A slice of frames, and what lies in it. -/
structure FS where
  a : Option Addr
  len : Nat
  cap : Nat
  g : Nat
  off : Nat
  l : List FrM
structure FS.Ok (w : World) (s : FS) : Prop where
  hb : s.l.length = s.len
  hcap : s.len ≤ s.cap
  nil : s.a = none → s.len = 0 ∧ s.cap = 0
  at_ : 0 < s.len → s.a = some ⟨s.g, s.off, none⟩
  lt : 0 < s.len → s.g < w.heap.size
  cell : ∀ j : Nat, j < s.len → w.rangeAt s.g (s.off + j * 8) (gf s.l j).cells.toList
  each : ∀ j : Nat, j < s.len → (gf s.l j).Ok w
theorem FS.Ok.below {w w' : World} {s : FS} (h : s.Ok w) (hb : Below w.heap.size w w') : s.Ok w' :=
  ⟨h.hb, h.hcap, h.nil, h.at_, fun p => Nat.lt_of_lt_of_le (h.lt p) hb.size, fun j hj i v hv => (hb.cell (p := ⟨s.g, s.off + j * 8 + i, none⟩) (h.lt (by omega))).trans (h.cell j hj i v hv), fun j hj => (h.each j hj).below hb⟩
/-- The frames themselves. -/
def FS.fr (s : FS) : List Fr.Frame := s.l.map FrM.fr
end Go.Proofs.YtehadfidenejdaaGreatDoor

/-! Ranges that are a set, one by one. -/
namespace Go.Proofs.YtehadfidenejdaaGreatDoor
open Go Go.RowKit

end Go.Proofs.YtehadfidenejdaaGreatDoor

/-! Helpers of layer 7: no program in sight but its types' numbers. -/
namespace Go.Proofs.YtehadfidenejdaaGreatDoor
open Go Go.RowKit

/-- What is done to a row of the call's own: below its base all is as it was, and so is all that is no row of bytes. -/
structure Keep (base : Nat) (w w' : World) : Prop where
  bel : Below base w w'
  oth : ∀ (p : Nat) (cs : Array Value) (t : TypeId) (fr : Nat × Nat), t ≠ 5 → w.heap[p]? = some (.cells cs t fr) → w'.heap[p]? = some (.cells cs t fr)
theorem Keep.refl (base : Nat) (w : World) : Keep base w w := ⟨Below.refl _ _, fun _ _ _ _ _ h => h⟩
theorem Keep.trans {base : Nat} {a b c : World} (h : Keep base a b) (k : Keep base b c) : Keep base a c := ⟨h.bel.trans k.bel, fun p cs t fr ht hp => k.oth p cs t fr ht (h.oth p cs t fr ht hp)⟩
theorem Keep.of_below {base : Nat} {w w' : World} (h : Below w.heap.size w w') (hb : base ≤ w.heap.size) : Keep base w w' :=
  ⟨h.mono hb, fun p _ _ _ _ hp => (h.block p (Array.getElem?_eq_some_iff.1 hp).1).trans hp⟩
theorem Keep.row {base g : Nat} {t : TypeId} {cs : Array Value} {w w' : World} (h : Keep base w w') (ht : t ≠ 5) (r : Row w g t cs) : Row w' g t cs := h.oth g cs t _ ht r
theorem Keep.size {base : Nat} {w w' : World} (h : Keep base w w') : w.heap.size ≤ w'.heap.size := h.bel.size

theorem run_cellF {P : Program} {a : Act} {o : Oper} (ty : TypeId) (x : Operand) (p : Addr) (v : Value) (d : TypeDesc) (ho : o.op = .load ty x) (hx : a.eval x = .pointer (some p)) (hu : P.underlying ty = some d) (hd : (match d with | .struct _ | .array _ _ => true | _ => false) = false)
    (W : World) (hv : W.cell? p = some v) : (execOp a.eval o).run P W = .ok (.value v) W := by
  have hag : (isAgg ty).run P W = .ok false W := by
    unfold isAgg
    rw [Sem.run_bind, run_underlying hu W]
    cases d <;> simp_all
  unfold execOp
  simp [ho, hx, Instr.loadAt, Instr.sureAddr, loadVar, hag, hv]
/-- What Put answers: the error's number. -/
noncomputable def putE (l : List Fr.Frame) : Nat := open Classical in if (∀ f ∈ l, Fr.mayF f) ∧ Fr.sepL false l then (if 1024 < l.length then 3 else if 1048576 < (Fr.putAll l).length then 3 else 0) else 1
/-- A slice whose place is told. -/
def SL.Told (s : SL) : Prop := ∀ p, s.a = some p → p = ⟨s.g, s.off, none⟩
theorem SL.Ok.apart {w w' : World} {s : SL} {g : Nat} (h : s.Ok w) (hg : w.grownBy w' (some g)) (hne : 0 < s.len → s.g ≠ g) : s.Ok w' := h.same (fun p => hg.block _ (h.lt p) (fun e => hne p (Option.some.inj e))) hg.size

end Go.Proofs.YtehadfidenejdaaGreatDoor
