/-
  Out of FrTwinR, FrLeftR, HkHelp, ChaTwin, ChaTwinO, FrTwin, HkLoop, FrSpine.
-/
import Derived.Test.YtaighdppemnglaaGreatDoorGf14
import Derived.Test.YtaighdppemnglaaGreatDoorRows
import Derived.Test.YtaighdppemnglaaGreatDoorGf3
import Derived.WalkKit
import Derived.WalkSpells
import Derived.WalkLawsBesides
import Derived.Test.YtaighdppemnglaaGreatDoorGf5
import Derived.Test.YtaighdppemnglaaGreatDoorGf2
import Derived.Test.YtaighdppemnglaaGreatDoorGf1

/-! What the statements' helper TwinRanges does to memory. -/
namespace Go.Proofs.YtaighdppemnglaaGreatDoor
open Go Go.RowKit

theorem vr_take {l : List (Nat × Nat)} {k : Nat} (h : k < l.length) : vr (l.take k) ++ [.int .u64 ((gr l k).1 : Int), .int .u64 ((gr l k).2 : Int)] = vr (l.take (k + 1)) := by
  rw [List.take_succ_eq_append_getElem h, vr_append]
  congr 1
  unfold gr
  rw [List.getElem?_eq_getElem h]
  rfl
theorem cells_two {w : World} {g : Nat} {t : TypeId} {x y : Value} (h : Row w g t #[x, y]) : ∀ j u, ([x, y] : List Value)[j]? = some u → w.cell? ((⟨g, 0, none⟩ : Addr).add j) = some u := by
  intro j u hj
  rw [add_at, Nat.zero_add]
  match j, hj with
  | 0, hj => exact (h.cell 0).trans hj
  | 1, hj => exact (h.cell 1).trans hj

set_option maxRecDepth 20000 in
set_option maxHeartbeats 400000 in
theorem twin_rl (q : RL) (w : World) (hq : q.Ok w) (hl : q.len ≤ 1048576) :
    Calls Tryz.prog 75 #[.slice q.a q.len q.cap] w fun e w' => e = .returned (.slice (some ⟨w.heap.size, 0, none⟩) q.len (q.len + 1)) ∧
      w'.ownsRow w.heap.size 114 2 (.slice (some ⟨w.heap.size, 0, none⟩) (q.len + 1) (q.len + 1)) (q.len + 1) (vr (q.l ++ [(77, 0)])) ∧ Below w.heap.size w w' := by
  obtain ⟨i0, hi, hz0, hz1, hz2⟩ := range_info
  obtain ⟨a, len, cap, g, off, l⟩ := q
  have HQ := veil hq
  have HZ : Hid (l.length = len) := hq.hb
  simp only at hl
  have hb1 : i0.bytes * (len + 1) ≤ 281474976710656 := by rw [hz2]; omega
  have hb2 : len + 1 ≤ maxLen := by unfold maxLen; omega
  clear hq
  go_enter Tryz.func75, Tryz.ntmps75
  go_wp2_with (at_make; refine wpList_make_own _ rfl _ _ 35 rfl w.heap.size 114 i0 (.agg (rC2 (0, 0))) 2 Tryz.underlying35 hi hz0 hz1 .i64 .i64 _ (len + 1) rfl rfl (by omega) hb1 hb2 (Nat.le_refl _) ?_; intro w1 hown1 hgrow1)
  clear hb1 hb2
  have hbel1 : Below w.heap.size w w1 := (Below.refl _ _).grown hgrow1 (Nat.le_refl _) (fun k e => by cases e)
  have O1 := veil hown1
  have B1 := veil hbel1
  clear hgrow1 hown1 hbel1
  go_loopw [3, 4] (fun t i wr => ∃ k : Nat, k ≤ len ∧ i = .int .i64 k ∧ t = .slice (some ⟨w.heap.size, 0, none⟩) k (len + 1) ∧
      wr.ownsRow w.heap.size 114 2 (.slice (some ⟨w.heap.size, 0, none⟩) k (len + 1)) k (vr (l.take k)) ∧ Below w.heap.size w wr)
    (fun _ i _ => len - (intOf i).toNat)
  case atStart => exact ⟨0, Nat.zero_le _, rfl, rfl, O1.out, B1.out⟩
  case round =>
    obtain ⟨k, hk, rfl, rfl, hown, hbel⟩ := hrel
    have HO := veil hown
    have HB := veil hbel
    have hsz := hbel.size
    clear O1 B1 hown
    by_cases hlt : k < len
    · have e1 : a = some ⟨g, off, none⟩ := HQ.out.at_ (show 0 < len by omega)
      subst e1
      obtain ⟨c1, c2⟩ := (HQ.out.below hbel).cell k hlt
      simp only at c1 c2
      have hle : k + 1 ≤ len + 1 := by omega
      clear hbel
      go_wp2_with (at_builtin; refine wpList_append_fits _ rfl _ _ 35 rfl w.heap.size 114 i0 2 Tryz.underlying35 hi hz1 w.heap.size k (len + 1) _ rfl (HO.out.alloc _) ⟨wr.heap.size, 0, none⟩ 1 1 [.int .u64 ((gr l k).1 : Int), .int .u64 ((gr l k).2 : Int)] rfl rfl (cells_two (Row.new _ _ _)) (by simp [Value.oneCell']) hle ?_; intro w2 hown2 hgrow2)
      have B2 := veil (show Below w.heap.size w w2 from (HB.out.alloc hsz _).grown hgrow2 (by simp; omega) (fun k e => by cases e; exact Nat.le_refl _))
      rw [vr_take (by rw [HZ.out]; exact hlt)] at hown2
      have O2 := veil hown2
      clear hgrow2 hown2 c1 c2
      go_wp2
      go_roundw
      case rel => exact ⟨k + 1, by omega, by go_num, rfl, O2.out, B2.out⟩
      case measure => simp [intOf]; omega
    · obtain rfl : k = len := by omega
      have O3 := veil (show wr.ownsRow w.heap.size 114 2 (.slice (some ⟨w.heap.size, 0, none⟩) k (k + 1)) k (vr l) by
        have := HO.out
        rw [List.take_of_length_le (by rw [HZ.out]; exact Nat.le_refl _)] at this
        exact this)
      clear hbel HO
      go_wp2_with (at_builtin; refine wpList_append_fits _ rfl _ _ 35 rfl w.heap.size 114 i0 2 Tryz.underlying35 hi hz1 w.heap.size k (k + 1) _ rfl (O3.out.alloc _) ⟨wr.heap.size, 0, none⟩ 1 1 [.int .u64 77, .int .u64 0] rfl rfl (cells_two (Row.new _ _ _)) (by simp [Value.oneCell']) (Nat.le_refl _) ?_; intro w2 hown2 hgrow2)
      have B2 := veil (show Below w.heap.size w w2 from (HB.out.alloc hsz _).grown hgrow2 (by simp; omega) (fun k e => by cases e; exact Nat.le_refl _))
      have O2 := veil (show w2.ownsRow w.heap.size 114 2 (.slice (some ⟨w.heap.size, 0, none⟩) (k + 1) (k + 1)) (k + 1) (vr (l ++ [(77, 0)])) by rw [vr_append]; exact hown2)
      clear hgrow2 hown2
      go_wp2
      go_ret
      exact ⟨rfl, O2.out, B2.out⟩
end Go.Proofs.YtaighdppemnglaaGreatDoor

/-! What the statements' helper LeftRanges answers of a copy that is kept. -/
namespace Go.Proofs.YtaighdppemnglaaGreatDoor
open Go Go.RowKit

/-- A copy of ranges, with its mark behind. -/
structure TwinR (w : World) (g : Nat) (l : List (Nat × Nat)) : Prop where
  lt : g < w.heap.size
  cell : ∀ j : Nat, j < l.length → w.cell? ⟨g, j * 2, none⟩ = some (.int .u64 ((gr l j).1 : Int)) ∧ w.cell? ⟨g, j * 2 + 1, none⟩ = some (.int .u64 ((gr l j).2 : Int))
  mark : w.cell? ⟨g, l.length * 2, none⟩ = some (.int .u64 77) ∧ w.cell? ⟨g, l.length * 2 + 1, none⟩ = some (.int .u64 0)
theorem TwinR.below {w w' : World} {g : Nat} {l : List (Nat × Nat)} (h : TwinR w g l) (hb : Below w.heap.size w w') : TwinR w' g l :=
  ⟨Nat.lt_of_lt_of_le h.lt hb.size, fun j hj => ⟨(hb.cell (p := ⟨g, j * 2, none⟩) h.lt).trans (h.cell j hj).1, (hb.cell (p := ⟨g, j * 2 + 1, none⟩) h.lt).trans (h.cell j hj).2⟩, ⟨(hb.cell (p := ⟨g, l.length * 2, none⟩) h.lt).trans h.mark.1, (hb.cell (p := ⟨g, l.length * 2 + 1, none⟩) h.lt).trans h.mark.2⟩⟩
theorem TwinR.of_own {w : World} {base g n : Nat} {l : List (Nat × Nat)} (h : w.ownsRow base 114 2 (.slice (some ⟨g, 0, none⟩) (n + 1) (n + 1)) (n + 1) (vr (l ++ [(77, 0)]))) : TwinR w g l := by
  have hlt := (h.lt g rfl).2
  have hc : ∀ j u, (vr (l ++ [(77, 0)]))[j]? = some u → w.cell? ⟨g, j, none⟩ = some u := fun j u hu => by
    have := h.cells (g := g) rfl j u hu
    rw [add_at, Nat.zero_add] at this
    exact this
  have hg : ∀ j, j < l.length → gr (l ++ [(77, 0)]) j = gr l j := fun j hj => by
    unfold gr
    rw [List.getElem?_append_left hj]
  have hm : gr (l ++ [(77, 0)]) l.length = (77, 0) := by
    unfold gr
    simp
  refine ⟨hlt, fun j hj => ?_, ?_⟩
  · have := vr_at (l ++ [(77, 0)]) j (by rw [List.length_append]; exact Nat.lt_of_lt_of_le hj (Nat.le_add_right _ _))
    rw [hg j hj] at this
    exact ⟨hc _ _ this.1, hc _ _ this.2⟩
  · have := vr_at (l ++ [(77, 0)]) l.length (by simp)
    rw [hm] at this
    exact ⟨hc _ _ this.1, hc _ _ this.2⟩

set_option maxRecDepth 20000 in
set_option maxHeartbeats 400000 in
theorem left_rl (q : RL) (g : Nat) (w : World) (hq : q.Ok w) (hl : q.len ≤ 1048576) (ht : TwinR w g q.l) :
    Calls Tryz.prog 88 #[.slice (some ⟨g, 0, none⟩) q.len (q.len + 1), .slice q.a q.len q.cap] w fun e w' => e = .returned (.bool true) ∧ Below w.heap.size w w' := by
  obtain ⟨a, len, cap, gq, off, l⟩ := q
  have hz : l.length = len := hq.hb
  simp only at hl ht
  have HQ := veil hq
  have HT := veil ht
  have HZ := veil hz
  clear hq ht hz
  have h1 : ((len : Int) != (len : Int)) = false := by simp
  have h2 : ¬ ((len : Int) + 1 ≤ (len : Int)) := by omega
  go_enter Tryz.func88, Tryz.ntmps88
  go_wp2
  go_loopw [5] (fun i wr => ∃ k : Nat, k ≤ len ∧ i = .int .i64 k ∧ Below w.heap.size w wr)
    (fun i _ => len - (intOf i).toNat)
  case atStart => exact ⟨0, Nat.zero_le _, rfl, Below.refl _ _⟩
  case round =>
    obtain ⟨k, hk, rfl, hbel⟩ := hrel
    by_cases hlt : k < len
    · have e2 : a = some ⟨gq, off, none⟩ := HQ.out.at_ (show 0 < len by omega)
      subst e2
      obtain ⟨c1, c2⟩ := (HT.out.below hbel).cell k (by rw [HZ.out]; exact hlt)
      obtain ⟨c3, c4⟩ := (HQ.out.below hbel).cell k hlt
      simp only at c1 c2 c3 c4
      generalize ((gr l k).1 : Int) = y at *
      generalize ((gr l k).2 : Int) = z at *
      go_wp2
      go_quiet (fail)
      go_wp2
      go_roundw
      case rel => exact ⟨k + 1, by omega, by go_num, below_drewN hbel _⟩
      case measure => simp [intOf]; omega
    · obtain rfl : len = k := by omega
      obtain ⟨c1, c2⟩ := (HT.out.below hbel).mark
      rw [HZ.out] at c1 c2
      have B := veil (fun o => hbel.alloc hbel.size o)
      clear hbel
      go_wp2
      go_ret
      exact ⟨rfl, B.out _⟩
end Go.Proofs.YtaighdppemnglaaGreatDoor

/-! What the statements' helpers TwinBytes and LeftBytes do to memory, for 4194304 bytes at most. -/
namespace Go.Proofs.YtaighdppemnglaaGreatDoor
open Go.RowKit

/-- Where bytes lie that are read: they are none, or a row of cells. -/
def Lies (w : World) (a : Option Addr) (zs : List Int) : Prop :=
  zs = [] ∨ ∃ b off, a = some ⟨b, off, none⟩ ∧ b < w.heap.size ∧ ∀ j : Nat, j < zs.length → w.cell? ⟨b, off + j, none⟩ = some (.int .u8 (zs[j]?.getD 0))

theorem Tryz.infoByte : (Tryz.prog.info? 5).map (fun i => (i.zero, i.size, i.bytes)) = some (some (.int .u8 0), 1, 1) := by kernel_rfl

/-- What is copied: a row of its own, with a mark behind. -/
def twin (zs : List Int) : List Value := (zs ++ [77]).map (Value.int .u8)

theorem twin_take {zs : List Int} {k : Nat} (h : k < zs.length) : (zs.take k).map (Value.int .u8) ++ [.int .u8 (zs[k]?.getD 0)] = (zs.take (k + 1)).map (Value.int .u8) := by
  rw [List.take_succ_eq_append_getElem h, List.map_append]
  congr 1
  simp [h]

set_option maxHeartbeats 1000000 in
theorem twin_any (a : Option Addr) (len cap : Nat) (zs : List Int) (w : World) (hz : zs.length = len) (hl : len ≤ 4194304) (hL : Lies w a zs) :
    Calls Tryz.prog 17 #[.slice a len cap] w fun e w' => ∃ g, e = .returned (.slice (some ⟨g, 0, none⟩) len (len + 1)) ∧
      w'.ownsRow w.heap.size 5 1 (.slice (some ⟨g, 0, none⟩) (len + 1) (len + 1)) (len + 1) (twin zs) ∧ Below w.heap.size w w' := by
  obtain ⟨i0, hi, hz0, hz1, hz2⟩ := info_parts Tryz.infoByte
  have HL : Hid (Lies w a zs) := hL
  have HZ : Hid (zs.length = len) := hz
  have hb1 : i0.bytes * (len + 1) ≤ 281474976710656 := by rw [hz2]; omega
  have hb2 : len + 1 ≤ maxLen := by unfold maxLen; omega
  clear hL hz
  go_enter Tryz.func17, Tryz.ntmps17
  go_wp2_with (at_make; refine wpList_make_own _ rfl _ _ 26 rfl w.heap.size 5 i0 (.int .u8 0) 1 Tryz.underlying26 hi hz0 hz1 .i64 .i64 _ (len + 1) rfl rfl (by omega) hb1 hb2 (Nat.le_refl _) ?_; intro w1 hown1 hgrow1)
  clear hb1 hb2
  have hbel1 : Below w.heap.size w w1 := (Below.refl _ _).grown hgrow1 (Nat.le_refl _) (fun k e => by cases e)
  clear hgrow1
  go_loopw [3, 4] (fun t i wr => ∃ k : Nat, k ≤ len ∧ i = .int .i64 k ∧ t = .slice (some ⟨w.heap.size, 0, none⟩) k (len + 1) ∧
      wr.ownsRow w.heap.size 5 1 (.slice (some ⟨w.heap.size, 0, none⟩) k (len + 1)) k ((zs.take k).map (Value.int .u8)) ∧ Below w.heap.size w wr)
    (fun _ i _ => len - (intOf i).toNat)
  case atStart => exact ⟨0, Nat.zero_le _, rfl, rfl, by simpa using hown1, hbel1⟩
  case round =>
    obtain ⟨k, hk, rfl, rfl, hown, hbel⟩ := hrel
    clear hown1 hbel1
    by_cases hlt : k < len
    · rcases HL.out with h0 | ⟨b, off, ha, hb, hcell⟩
      · have := HZ.out; rw [h0] at this; simp at this; omega
      · subst ha
        have hcx : wr.cell? ⟨b, off + k, none⟩ = some (.int .u8 (zs[k]?.getD 0)) := (hbel.cell (by exact hb)).trans (hcell k (by rw [HZ.out]; exact hlt))
        clear hcell
        go_wp2_with (at_builtin; refine wpList_append_fits _ rfl _ _ 26 rfl w.heap.size 5 i0 1 Tryz.underlying26 hi hz1 w.heap.size k (len + 1) _ rfl (hown.alloc _) ⟨wr.heap.size, 0, none⟩ 1 1 [.int .u8 (zs[k]?.getD 0)] rfl rfl (cell_one_new _ _ _) (by simp [Value.oneCell']) (by omega) ?_; intro w2 hown2 hgrow2)
        have hbel2 : Below w.heap.size w w2 := (hbel.alloc hbel.size _).grown hgrow2 (by have := hbel.size; simp; omega) (fun k e => by cases e; exact Nat.le_refl _)
        rw [twin_take (by rw [HZ.out]; exact hlt)] at hown2
        clear hgrow2 hown
        go_wp2
        go_roundw
        case rel => exact ⟨k + 1, by omega, by go_num, rfl, hown2, hbel2⟩
        case measure => simp [intOf]; omega
    · have hkl : k = len := by omega
      subst hkl
      have hown3 : wr.ownsRow w.heap.size 5 1 (.slice (some ⟨w.heap.size, 0, none⟩) k (k + 1)) k (zs.map (Value.int .u8)) := by
        have := hown; rw [List.take_of_length_le (by rw [HZ.out]; exact Nat.le_refl _)] at this; exact this
      clear hown
      go_wp2_with (at_builtin; refine wpList_append_fits _ rfl _ _ 26 rfl w.heap.size 5 i0 1 Tryz.underlying26 hi hz1 w.heap.size k (k + 1) _ rfl (hown3.alloc _) ⟨wr.heap.size, 0, none⟩ 1 1 [.int .u8 77] rfl rfl (cell_one_new _ _ _) (by simp [Value.oneCell']) (by omega) ?_; intro w2 hown2 hgrow2)
      have hbel2 : Below w.heap.size w w2 := (hbel.alloc hbel.size _).grown hgrow2 (by have := hbel.size; simp; omega) (fun k e => by cases e; exact Nat.le_refl _)
      clear hgrow2 hown3
      go_wp2
      go_ret
      exact ⟨_, rfl, by simpa [twin] using hown2, hbel2⟩

/-- The cells of a copy that is kept. -/
theorem twin_cells {w : World} {base g len : Nat} {zs : List Int} (hz : zs.length = len) (h : w.ownsRow base 5 1 (.slice (some ⟨g, 0, none⟩) (len + 1) (len + 1)) (len + 1) (twin zs)) :
    g < w.heap.size ∧ base ≤ g ∧ (∀ j : Nat, j < len → w.cell? ⟨g, j, none⟩ = some (.int .u8 (zs[j]?.getD 0))) ∧ w.cell? ⟨g, len, none⟩ = some (.int .u8 77) := by
  obtain ⟨h1, h2⟩ := h.lt g rfl
  refine ⟨h2, h1, fun j hj => ?_, ?_⟩
  · rw [h.cellAt j (by omega)]
    unfold twin
    rw [List.getElem?_map, List.getElem?_append_left (by omega)]
    simp [show j < zs.length by omega]
  · rw [h.cellAt len (by omega)]
    unfold twin
    rw [List.getElem?_map, List.getElem?_append_right (by omega)]
    simp [hz]

set_option maxHeartbeats 1000000 in
theorem left_any (g : Nat) (a : Option Addr) (len cap : Nat) (zs : List Int) (w : World) (hz : zs.length = len) (hl : len ≤ 4194304) (hL : Lies w a zs) (hg : g < w.heap.size)
    (hT : ∀ j : Nat, j < len → w.cell? ⟨g, j, none⟩ = some (.int .u8 (zs[j]?.getD 0))) (h77 : w.cell? ⟨g, len, none⟩ = some (.int .u8 77)) :
    Calls Tryz.prog 21 #[.slice (some ⟨g, 0, none⟩) len (len + 1), .slice a len cap] w fun e w' => e = .returned (.bool true) ∧ Below w.heap.size w w' := by
  have HL : Hid (Lies w a zs) := hL
  have HZ : Hid (zs.length = len) := hz
  have HT := fun j hj => hT j hj
  have H77 : Hid (w.cell? ⟨g, len, none⟩ = some (.int .u8 77)) := h77
  have h1 : ((len : Int) != (len : Int)) = false := by simp
  have h2 : ¬ ((len : Int) + 1 ≤ (len : Int)) := by omega
  clear hL hz hT h77
  go_enter Tryz.func21, Tryz.ntmps21
  go_wp2
  go_loopw [5] (fun i wr => ∃ k : Nat, k ≤ len ∧ i = .int .i64 k ∧ Below w.heap.size w wr)
    (fun i _ => len - (intOf i).toNat)
  case atStart => exact ⟨0, Nat.zero_le _, rfl, Below.refl _ _⟩
  case round =>
    obtain ⟨k, hk, rfl, hbel⟩ := hrel
    by_cases hlt : k < len
    · rcases HL.out with h0 | ⟨b, off, ha, hb, hcell⟩
      · have := HZ.out; rw [h0] at this; simp at this; omega
      · subst ha
        have hcx : wr.cell? ⟨b, off + k, none⟩ = some (.int .u8 (zs[k]?.getD 0)) := (hbel.cell (by exact hb)).trans (hcell k (by rw [HZ.out]; exact hlt))
        have hcy : wr.cell? ⟨g, k, none⟩ = some (.int .u8 (zs[k]?.getD 0)) := (hbel.cell (by exact hg)).trans (HT k hlt)
        clear hcell HT
        go_wp2
        go_region
        all_goals go_wp2
        all_goals
          go_roundw
          case rel => exact ⟨k + 1, by omega, by go_num, hbel.drew⟩
          case measure => simp [intOf]; omega
    · have hkl : k = len := by omega
      subst hkl
      have hc7 : wr.cell? ⟨g, k, none⟩ = some (.int .u8 77) := (hbel.cell (by exact hg)).trans H77.out
      go_wp2
      go_ret
      exact ⟨rfl, hbel⟩
/-- The cells of bytes, as numbers. -/
def nums (b : List By) : List Int := b.map v8
theorem nums_length (b : List By) : (nums b).length = b.length := by simp [nums]
theorem nums_get (b : List By) (j : Nat) (h : j < b.length) : (nums b)[j]?.getD 0 = v8 (gb b j) := by
  unfold nums gb
  rw [List.getElem?_map, List.getElem?_eq_getElem h]
  rfl
theorem lies_of {w : World} {a : Option Addr} {g off len : Nat} {b : List By} (hb : b.length = len) (ha : 0 < len → a = some ⟨g, off, none⟩) (hgl : 0 < len → g < w.heap.size) (hc : ∀ j : Nat, j < len → w.cell? ⟨g, off + j, none⟩ = some (.int .u8 (v8 (gb b j)))) : Lies w a (nums b) := by
  by_cases h : 0 < len
  · refine .inr ⟨g, off, ha h, hgl h, fun j hj => ?_⟩
    rw [nums_length, hb] at hj
    rw [hc j hj, nums_get b j (by omega)]
  · left
    obtain rfl : b = [] := List.eq_nil_of_length_eq_zero (by omega)
    rfl
end Go.Proofs.YtaighdppemnglaaGreatDoor

/-! What TwinBytes and LeftBytes do with slices. Cut out of HkLaw.lean. -/
namespace Go.Proofs.YtaighdppemnglaaGreatDoor
open Go Go.RowKit

/-- A copy with a mark behind it. -/
structure Twin (w : World) (g : Nat) (b : List By) : Prop where
  lt : g < w.heap.size
  cell : ∀ j : Nat, j < b.length → w.cell? ⟨g, j, none⟩ = some (.int .u8 (v8 (gb b j)))
  mark : w.cell? ⟨g, b.length, none⟩ = some (.int .u8 77)
theorem Twin.below {w w' : World} {g : Nat} {b : List By} (h : Twin w g b) (hb : Below w.heap.size w w') : Twin w' g b :=
  ⟨Nat.lt_of_lt_of_le h.lt hb.size, fun j hj => (hb.cell (p := ⟨g, j, none⟩) h.lt).trans (h.cell j hj), (hb.cell (p := ⟨g, b.length, none⟩) h.lt).trans h.mark⟩
def twinS (g n : Nat) (b : List By) : SL := ⟨some ⟨g, 0, none⟩, n, n + 1, g, 0, b⟩
theorem Twin.ok {w : World} {g n : Nat} {b : List By} (h : Twin w g b) (hn : b.length = n) : (twinS g n b).Ok w := by
  subst hn
  refine ⟨rfl, (by show b.length ≤ b.length + 1; omega), fun e => by simp [twinS] at e, fun _ => rfl, fun _ => h.lt, fun j hj => ?_⟩
  show w.cell? ⟨g, 0 + j, none⟩ = _
  rw [Nat.zero_add]
  exact h.cell j hj
theorem twin_sl (q : SL) (w : World) (hq : q.Ok w) (hl : q.len ≤ 4194304) :
    Calls Tryz.prog 17 #[.slice q.a q.len q.cap] w fun e w' => ∃ g, e = .returned (.slice (some ⟨g, 0, none⟩) q.len (q.len + 1)) ∧ Twin w' g q.b ∧ w.heap.size ≤ g ∧ Below w.heap.size w w' := by
  refine (twin_any q.a q.len q.cap (nums q.b) w (by rw [nums_length, hq.hb]) hl (lies_of hq.hb hq.at_ hq.lt hq.cell)).mono ?_
  rintro e w1 ⟨g, rfl, hown, hb⟩
  obtain ⟨h1, h2, h3, h4⟩ := twin_cells (by rw [nums_length, hq.hb]) hown
  exact ⟨g, rfl, ⟨h1, fun j hj => by rw [h3 j (by rw [← hq.hb]; exact hj), nums_get q.b j hj], by rw [hq.hb]; exact h4⟩, h2, hb⟩
theorem left_sl (q : SL) (g : Nat) (w : World) (hq : q.Ok w) (hl : q.len ≤ 4194304) (ht : Twin w g q.b) :
    Calls Tryz.prog 21 #[.slice (some ⟨g, 0, none⟩) q.len (q.len + 1), .slice q.a q.len q.cap] w fun e w' => e = .returned (.bool true) ∧ Below w.heap.size w w' :=
  left_any g q.a q.len q.cap (nums q.b) w (by rw [nums_length, hq.hb]) hl (lies_of hq.hb hq.at_ hq.lt hq.cell) ht.lt (fun j hj => by rw [ht.cell j (by rw [hq.hb]; exact hj), nums_get q.b j (by rw [hq.hb]; exact hj)]) (by have := ht.mark; rw [hq.hb] at this; exact this)

end Go.Proofs.YtaighdppemnglaaGreatDoor

/-! The law's copy as a row of its own; three lists apart. -/
namespace Go.Proofs.YtaighdppemnglaaGreatDoor
open Go Go.RowKit

theorem own_cut {w : World} {base g n : Nat} {xs ys : List Value} (h : w.ownsRow base 5 1 (.slice (some ⟨g, 0, none⟩) (n + 1) (n + 1)) (n + 1) (xs ++ ys)) (hx : xs.length = n) : w.ownsRow base 5 1 (.slice (some ⟨g, 0, none⟩) n (n + 1)) n xs := by
  obtain ⟨_, h2⟩ := h
  rcases h2 with ⟨e, _⟩ | ⟨g', cap, cur, e, hg, hh, _, hm, hs, ht⟩
  · cases e
  · simp only [Value.slice.injEq, Option.some.injEq, Addr.mk.injEq] at e
    obtain ⟨⟨rfl, _⟩, _, rfl⟩ := e
    refine ⟨by rw [hx, Nat.mul_one], .inr ⟨g, n + 1, cur, rfl, hg, hh, by omega, hm, hs, ?_⟩⟩
    rw [Nat.mul_one] at ht
    have h3 := congrArg (List.take n) ht
    rw [List.take_take, show min n (n + 1) = n by omega, List.take_append_of_le_length (by omega), List.take_of_length_le (l := xs) (by omega)] at h3
    rw [Nat.mul_one]
    exact h3
theorem twin_own (q : SL) (w : World) (hq : q.Ok w) (hl : q.len ≤ 4194304) :
    Calls Tryz.prog 17 #[.slice q.a q.len q.cap] w fun e w' => ∃ g, e = .returned (.slice (some ⟨g, 0, none⟩) q.len (q.len + 1)) ∧ Twin w' g q.b ∧ w'.ownsRow w.heap.size 5 1 (.slice (some ⟨g, 0, none⟩) q.len (q.len + 1)) q.len (vb q.b) ∧ Below w.heap.size w w' := by
  refine (twin_any q.a q.len q.cap (nums q.b) w (by rw [nums_length, hq.hb]) hl (lies_of hq.hb hq.at_ hq.lt hq.cell)).mono ?_
  rintro e w1 ⟨g, rfl, hown, hb⟩
  obtain ⟨h1, h2, h3, h4⟩ := twin_cells (by rw [nums_length, hq.hb]) hown
  refine ⟨g, rfl, ⟨h1, fun j hj => by rw [h3 j (by rw [← hq.hb]; exact hj), nums_get q.b j hj], by rw [hq.hb]; exact h4⟩, ?_, hb⟩
  have e1 : twin (nums q.b) = vb q.b ++ [.int .u8 77] := by
    unfold twin nums vb
    simp
  rw [e1] at hown
  exact own_cut hown (by rw [vb_length, hq.hb])
end Go.Proofs.YtaighdppemnglaaGreatDoor

/-! What the statements' helper TwinFrame does to memory. Written by mktwf.py. -/
namespace Go.Proofs.YtaighdppemnglaaGreatDoor
open Go Go.RowKit

/-- A row of the call's own, of a lower base; in a world behind. -/
theorem own_lowK {w : World} {B B' n z : Nat} {e : TypeId} {v : Value} {xs : List Value} (h : w.ownsRow B e z v n xs) (hB : B' ≤ B) : w.ownsRow B' e z v n xs := by
  obtain ⟨h1, h2⟩ := h
  refine ⟨h1, ?_⟩
  rcases h2 with h2 | ⟨g, c, cur, h3, h4, h5⟩
  · exact .inl h2
  · exact .inr ⟨g, c, cur, h3, Nat.le_trans hB h4, h5⟩
theorem own_keepK {w w' : World} {B n z : Nat} {e : TypeId} {v : Value} {xs : List Value} (h : w.ownsRow B e z v n xs) (hs : ∀ g, v.ownBlock = some g → w'.heap[g]? = w.heap[g]?) : w'.ownsRow B e z v n xs := by
  obtain ⟨h1, h2⟩ := h
  refine ⟨h1, ?_⟩
  rcases h2 with h2 | ⟨g, c, cur, rfl, h4, h5, h6⟩
  · exact .inl h2
  · exact .inr ⟨g, c, cur, rfl, h4, (hs g rfl).trans h5, h6⟩
theorem own_belowK {w w' : World} {B n z : Nat} {e : TypeId} {v : Value} {xs : List Value} (h : w.ownsRow B e z v n xs) (hb : Below w.heap.size w w') : w'.ownsRow B e z v n xs :=
  own_keepK h (fun g e => hb.block g (h.lt g e).2)
theorem own_cutK {w : World} {base g n z : Nat} {e : TypeId} {xs ys : List Value} (h : w.ownsRow base e z (.slice (some ⟨g, 0, none⟩) (n + 1) (n + 1)) (n + 1) (xs ++ ys)) (hx : xs.length = n * z) : w.ownsRow base e z (.slice (some ⟨g, 0, none⟩) n (n + 1)) n xs := by
  obtain ⟨_, h2⟩ := h
  rcases h2 with ⟨e, _⟩ | ⟨g', cap, cur, e, hg, hh, _, hm, hs, ht⟩
  · cases e
  · simp only [Value.slice.injEq, Option.some.injEq, Addr.mk.injEq] at e
    obtain ⟨⟨rfl, _⟩, _, rfl⟩ := e
    refine ⟨hx, .inr ⟨g, n + 1, cur, rfl, hg, hh, by omega, hm, hs, ?_⟩⟩
    have h3 := congrArg (List.take (n * z)) ht
    rw [List.take_take, Nat.min_eq_left (Nat.mul_le_mul_right z (Nat.le_succ n)), List.take_append_of_le_length (by omega), List.take_of_length_le (l := xs) (by omega)] at h3
    exact h3

/-- A copy of bytes that is kept, as a row of its own with a mark behind. -/
structure TwD (B : Nat) (w : World) (g : Nat) (s : SL) : Prop where
  own : w.ownsRow B 5 1 (.slice (some ⟨g, 0, none⟩) s.len (s.len + 1)) s.len (vb s.b)
  twin : Twin w g s.b
structure TwG (B : Nat) (w : World) (g : Nat) (s : RL) : Prop where
  own : w.ownsRow B 114 2 (.slice (some ⟨g, 0, none⟩) s.len (s.len + 1)) s.len (vr s.l)
  twin : TwinR w g s.l
section
variable {B g : Nat} {w w' : World} {s : SL} {r : RL}
theorem TwD.below (h : TwD B w g s) (hb : Below w.heap.size w w') : TwD B w' g s := ⟨own_belowK h.own hb, h.twin.below hb⟩
theorem TwG.below (h : TwG B w g r) (hb : Below w.heap.size w w') : TwG B w' g r := ⟨own_belowK h.own hb, h.twin.below hb⟩
theorem TwD.ge (h : TwD B w g s) : B ≤ g := (h.own.lt g rfl).1
theorem TwG.ge (h : TwG B w g r) : B ≤ g := (h.own.lt g rfl).1
theorem TwD.lt (h : TwD B w g s) : g < w.heap.size := (h.own.lt g rfl).2
theorem TwG.lt (h : TwG B w g r) : g < w.heap.size := (h.own.lt g rfl).2
theorem TwD.low {B' : Nat} (h : TwD B w g s) (hB : B' ≤ B) : TwD B' w g s := ⟨own_lowK h.own hB, h.twin⟩
theorem TwG.low {B' : Nat} (h : TwG B w g r) (hB : B' ≤ B) : TwG B' w g r := ⟨own_lowK h.own hB, h.twin⟩
theorem TwD.setRow {k : Nat} (h : TwD B w g s) (hk : g ≠ k) (cs : Array Value) : TwD B (w.setRow k cs) g s :=
  ⟨own_keepK h.own (fun z e => by cases e; exact setRow_other _ _ _ _ hk), ⟨by rw [setRow_size]; exact h.twin.lt, fun j hj => (World.cell?_of_block (a := ⟨g, j, none⟩) (setRow_other _ _ _ _ hk)).trans (h.twin.cell j hj), (World.cell?_of_block (a := ⟨g, s.b.length, none⟩) (setRow_other _ _ _ _ hk)).trans h.twin.mark⟩⟩
theorem TwG.setRow {k : Nat} (h : TwG B w g r) (hk : g ≠ k) (cs : Array Value) : TwG B (w.setRow k cs) g r :=
  ⟨own_keepK h.own (fun z e => by cases e; exact setRow_other _ _ _ _ hk), ⟨by rw [setRow_size]; exact h.twin.lt, fun j hj => ⟨(World.cell?_of_block (a := ⟨g, j * 2, none⟩) (setRow_other _ _ _ _ hk)).trans (h.twin.cell j hj).1, (World.cell?_of_block (a := ⟨g, j * 2 + 1, none⟩) (setRow_other _ _ _ _ hk)).trans (h.twin.cell j hj).2⟩, ⟨(World.cell?_of_block (a := ⟨g, r.l.length * 2, none⟩) (setRow_other _ _ _ _ hk)).trans h.twin.mark.1, (World.cell?_of_block (a := ⟨g, r.l.length * 2 + 1, none⟩) (setRow_other _ _ _ _ hk)).trans h.twin.mark.2⟩⟩⟩
end
/-- Rows of unlike kinds lie in unlike blocks. -/
theorem TwD.ne {B B' g g' : Nat} {w : World} {s : SL} {r : RL} (h : TwD B w g s) (h' : TwG B' w g' r) : g ≠ g' := by
  intro e
  subst e
  rcases h.own.2 with ⟨q, _⟩ | ⟨z, c, cur, q, _, hh, _⟩
  · cases q
  · rcases h'.own.2 with ⟨q', _⟩ | ⟨z', c', cur', q', _, hh', _⟩
    · cases q'
    · simp only [Value.slice.injEq, Option.some.injEq, Addr.mk.injEq] at q q'
      obtain ⟨⟨rfl, _⟩, _⟩ := q
      obtain ⟨⟨rfl, _⟩, _⟩ := q'
      rw [hh] at hh'
      injection hh' with hh'
      injection hh' with _ hh'
      exact absurd hh' (by decide)
theorem twb_own (s : SL) (w : World) (hs : s.Ok w) (hl : s.len ≤ 1048576) :
    Calls Tryz.prog 17 #[.slice s.a s.len s.cap] w fun e w' => ∃ g, e = .returned (.slice (some ⟨g, 0, none⟩) s.len (s.len + 1)) ∧ TwD w.heap.size w' g s ∧ Below w.heap.size w w' := by
  refine (twin_own s w hs (by omega)).mono ?_
  rintro e w' ⟨g, rfl, ht, ho, hb⟩
  exact ⟨g, rfl, ⟨ho, ht⟩, hb⟩
theorem twr_own (s : RL) (w : World) (hs : s.Ok w) (hl : s.len ≤ 1048576) :
    Calls Tryz.prog 75 #[.slice s.a s.len s.cap] w fun e w' => ∃ g, e = .returned (.slice (some ⟨g, 0, none⟩) s.len (s.len + 1)) ∧ TwG w.heap.size w' g s ∧ Below w.heap.size w w' := by
  refine (twin_rl s w hs hl).mono ?_
  rintro e w' ⟨rfl, ho, hb⟩
  refine ⟨_, rfl, ⟨?_, TwinR.of_own ho⟩, hb⟩
  rw [vr_append] at ho
  exact own_cutK ho (by rw [vr_length, hs.hb]; omega)

/-- A copy of ranges, as a slice; a frame's copy. -/
def twinRS (g n : Nat) (l : List (Nat × Nat)) : RL := ⟨some ⟨g, 0, none⟩, n, n + 1, g, 0, l⟩
def FrM.twin (f : FrM) (g1 g2 : Nat) : FrM := ⟨f.kind, f.stream, f.offset, f.limit, f.code, f.fin, twinS g1 f.data.len f.data.b, twinRS g2 f.ranges.len f.ranges.l⟩
theorem FrM.twin_fr (f : FrM) (g1 g2 : Nat) : (f.twin g1 g2).fr = f.fr := rfl
theorem TwG.ok {B g : Nat} {w : World} {r : RL} (h : TwG B w g r) (hr : r.l.length = r.len) (hsm : ∀ j, (gr r.l j).1 < 18446744073709551616 ∧ (gr r.l j).2 < 18446744073709551616) : (twinRS g r.len r.l).Ok w :=
  ⟨hr, Nat.le_succ _, (fun e => by cases e), fun _ => rfl, fun _ => h.lt, fun j hj => by
    have hj' : j < r.len := hj
    have := h.twin.cell j (by omega)
    rw [show (twinRS g r.len r.l).off + j * 2 = j * 2 from Nat.zero_add _]
    exact this, hsm⟩
theorem FrM.Ok.twin {B g1 g2 : Nat} {w0 w : World} {f : FrM} (hf : f.Ok w0) (h1 : TwD B w g1 f.data) (h2 : TwG B w g2 f.ranges) : (f.twin g1 g2).Ok w :=
  ⟨h1.twin.ok hf.data.hb, h2.ok hf.ranges.hb hf.ranges.small, hf.k8, hf.st, hf.of, hf.li, hf.co⟩
def depTF : Nat → List Nat
  | 1 => [0]
  | 3 => [2]
  | 5 => [4]
  | 7 => [6]
  | 9 => [8]
  | 11 => [10]
  | 13 => [12]
  | 14 => [13]
  | 16 => [15]
  | 17 => [16]
  | 18 => [1, 3, 5, 7, 9, 11, 14, 17]
  | 19 => [0, 1, 2, 3, 4, 5, 6, 7, 8, 9, 10, 11, 12, 13, 14, 15, 16, 17, 18]
  | _ => []
def valTF (f : FrM) (S : Nat) : Nat → World → Value → Prop
  | 0, _, v => v = .pointer (some ⟨S, 0, none⟩)
  | 1, _, v => v = .int .u8 (f.kind : Int)
  | 2, _, v => v = .pointer (some ⟨S, 1, none⟩)
  | 3, _, v => v = .int .u64 (f.stream : Int)
  | 4, _, v => v = .pointer (some ⟨S, 2, none⟩)
  | 5, _, v => v = .int .u64 (f.offset : Int)
  | 6, _, v => v = .pointer (some ⟨S, 3, none⟩)
  | 7, _, v => v = .int .u64 (f.limit : Int)
  | 8, _, v => v = .pointer (some ⟨S, 4, none⟩)
  | 9, _, v => v = .int .u64 (f.code : Int)
  | 10, _, v => v = .pointer (some ⟨S, 5, none⟩)
  | 11, _, v => v = .bool f.fin
  | 12, _, v => v = .pointer (some ⟨S, 6, none⟩)
  | 13, _, v => v = .slice f.data.a f.data.len f.data.cap
  | 14, W, v => ∃ g, v = .slice (some ⟨g, 0, none⟩) f.data.len (f.data.len + 1) ∧ TwD (S + 2) W g f.data
  | 15, _, v => v = .pointer (some ⟨S, 7, none⟩)
  | 16, _, v => v = .slice f.ranges.a f.ranges.len f.ranges.cap
  | 17, W, v => ∃ g, v = .slice (some ⟨g, 0, none⟩) f.ranges.len (f.ranges.len + 1) ∧ TwG (S + 2) W g f.ranges
  | 18, W, v => ∃ g1 g2, v = .agg (f.twin g1 g2).cells ∧ TwD (S + 2) W g1 f.data ∧ TwG (S + 2) W g2 f.ranges
  | _, _, _ => True
theorem valTF_mono {f : FrM} {S : Nat} : ∀ (j : Nat) (W W' : World) (v : Value), Below W.heap.size W W' → valTF f S j W v → valTF f S j W' v
  | 0, _, _, _, _, h => h
  | 1, _, _, _, _, h => h
  | 2, _, _, _, _, h => h
  | 3, _, _, _, _, h => h
  | 4, _, _, _, _, h => h
  | 5, _, _, _, _, h => h
  | 6, _, _, _, _, h => h
  | 7, _, _, _, _, h => h
  | 8, _, _, _, _, h => h
  | 9, _, _, _, _, h => h
  | 10, _, _, _, _, h => h
  | 11, _, _, _, _, h => h
  | 12, _, _, _, _, h => h
  | 13, _, _, _, _, h => h
  | 14, _, _, _, hb, ⟨g, h1, h2⟩ => ⟨g, h1, h2.below hb⟩
  | 15, _, _, _, _, h => h
  | 16, _, _, _, _, h => h
  | 17, _, _, _, hb, ⟨g, h1, h2⟩ => ⟨g, h1, h2.below hb⟩
  | 18, _, _, _, hb, ⟨g1, g2, h1, h2, h3⟩ => ⟨g1, g2, h1, h2.below hb, h3.below hb⟩
  | _ + 19, _, _, _, _, _ => trivial

set_option maxRecDepth 20000 in
set_option maxHeartbeats 2000000 in
theorem twin_fr (f : FrM) (w : World) (hf : f.Ok w) (ld : f.data.len ≤ 1048576) (lr : f.ranges.len ≤ 1048576) :
    Calls Tryz.prog 23 #[.agg f.cells] w fun e w' => ∃ g1 g2, e = .returned (.agg (f.twin g1 g2).cells) ∧ TwD w.heap.size w' g1 f.data ∧ TwG w.heap.size w' g2 f.ranges ∧ Below w.heap.size w w' := by
  have HF := veil hf
  have HLD := veil ld
  have HLR := veil lr
  clear hf ld lr
  obtain ⟨w0, hw0⟩ : ∃ w0, w0 = (w.alloc (.cells f.cells 37)).alloc (.cells #[.int .u8 0, .int .u64 0, .int .u64 0, .int .u64 0, .int .u64 0, .bool false, .slice none 0 0, .slice none 0 0] 37) := ⟨_, rfl⟩
  have r0 : Row w0 w.heap.size 37 f.cells := by rw [hw0]; exact (Row.new _ _ _).alloc _
  have q0 : Row w0 (w.heap.size + 1) 37 #[.int .u8 0, .int .u64 0, .int .u64 0, .int .u64 0, .int .u64 0, .bool false, .slice none 0 0, .slice none 0 0] := by rw [hw0]; exact Row.new1 _ _ _ _
  have b0 : Below w.heap.size w w0 := by rw [hw0]; exact ((Below.refl _ w).alloc (Nat.le_refl _) _).alloc (by simp) _
  have hs0 : w0.heap.size = w.heap.size + 2 := by rw [hw0]; simp
  refine (callsIn_wide (n := 4)).1 ?_
  refine callsIn_of_wp Tryz.func23 rfl trivial ?_ rfl
  simp only [Tryz.ntmps23, List.size_toArray, List.length_cons, List.length_nil, Nat.reduceAdd, Nat.reduceSub, Array.replicate_succ, Array.replicate_zero, List.push_toArray, List.append_toArray, List.nil_append, List.cons_append]
  have HW0 := veil hw0
  clear hw0
  gi_wp2_with (with_reducible (show wpListIn _ _ _ _ _ (⟨_, Op.alloc 37, _, _, _, _⟩ :: _) _ _); refine alloc_rowIn rfl 37 rfl #[.int .u8 0, .int .u64 0, .int .u64 0, .int .u64 0, .int .u64 0, .bool false, .slice none 0 0, .slice none 0 0] (by kernel_rfl) ?_)
  rw [← HW0.out, World.size_alloc]
  refine wpIn_region_any (by kernel_rfl) ?_
  refine anyIn_store (w0 := w0) (valTF f w.heap.size) valTF_mono [3, 4, 5, 6, 7, 8, 9, 10, 11, 12, 13, 14, 15, 16, 17, 18, 19, 20, 21] depTF (by kernel_rfl) rfl (by decide) (by intro j hj; have : j < 19 := hj; simp [depTF]; omega) (by kernel_rfl) ((Below.refl _ _).drew)
    (fun _ U => Below w.heap.size w U ∧ ∃ g1 g2, Row U (w.heap.size + 1) 37 (f.twin g1 g2).cells ∧ TwD (w.heap.size + 2) U g1 f.data ∧ TwG (w.heap.size + 2) U g2 f.ranges) ?step ?last ?done
  case step =>
    intro x W i d hW hdi hdep
    have bW := b0.trans (hW.mono b0.size)
    have hsW := hW.size
    obtain ⟨c0, c1, c2, c3, c4, c5, c6, c7⟩ := fr_cells (r0.below hW r0.lt)
    match i, hdi, hdep with
    | 0, hdi, _ =>
      obtain rfl := Option.some.inj hdi
      exact OI_value rfl rfl (about_none (by intro c h; cases h)) (by intro c h; cases h) (.pointer (some ⟨w.heap.size, 0, none⟩)) W (by kernel_rfl) ⟨_, rfl, Below.refl _ _, rfl⟩
    | 1, hdi, hdep =>
      obtain rfl := Option.some.inj hdi
      rw [updV_self (show x 0 = _ from hdep 0 (by simp [depTF]))]
      exact OI_value rfl rfl (about_none (by intro c h; cases h)) (by intro c h; cases h) (.int .u8 (f.kind : Int)) W (run_cellF 33 _ ⟨w.heap.size, 0, none⟩ _ _ rfl (by kernel_rfl) Tryz.underlying33 rfl W c0) ⟨_, rfl, Below.refl _ _, rfl⟩
    | 2, hdi, _ =>
      obtain rfl := Option.some.inj hdi
      exact OI_value rfl rfl (about_none (by intro c h; cases h)) (by intro c h; cases h) (.pointer (some ⟨w.heap.size, 1, none⟩)) W (by kernel_rfl) ⟨_, rfl, Below.refl _ _, rfl⟩
    | 3, hdi, hdep =>
      obtain rfl := Option.some.inj hdi
      rw [updV_self (show x 2 = _ from hdep 2 (by simp [depTF]))]
      exact OI_value rfl rfl (about_none (by intro c h; cases h)) (by intro c h; cases h) (.int .u64 (f.stream : Int)) W (run_cellF 34 _ ⟨w.heap.size, 1, none⟩ _ _ rfl (by kernel_rfl) Tryz.underlying34 rfl W c1) ⟨_, rfl, Below.refl _ _, rfl⟩
    | 4, hdi, _ =>
      obtain rfl := Option.some.inj hdi
      exact OI_value rfl rfl (about_none (by intro c h; cases h)) (by intro c h; cases h) (.pointer (some ⟨w.heap.size, 2, none⟩)) W (by kernel_rfl) ⟨_, rfl, Below.refl _ _, rfl⟩
    | 5, hdi, hdep =>
      obtain rfl := Option.some.inj hdi
      rw [updV_self (show x 4 = _ from hdep 4 (by simp [depTF]))]
      exact OI_value rfl rfl (about_none (by intro c h; cases h)) (by intro c h; cases h) (.int .u64 (f.offset : Int)) W (run_cellF 34 _ ⟨w.heap.size, 2, none⟩ _ _ rfl (by kernel_rfl) Tryz.underlying34 rfl W c2) ⟨_, rfl, Below.refl _ _, rfl⟩
    | 6, hdi, _ =>
      obtain rfl := Option.some.inj hdi
      exact OI_value rfl rfl (about_none (by intro c h; cases h)) (by intro c h; cases h) (.pointer (some ⟨w.heap.size, 3, none⟩)) W (by kernel_rfl) ⟨_, rfl, Below.refl _ _, rfl⟩
    | 7, hdi, hdep =>
      obtain rfl := Option.some.inj hdi
      rw [updV_self (show x 6 = _ from hdep 6 (by simp [depTF]))]
      exact OI_value rfl rfl (about_none (by intro c h; cases h)) (by intro c h; cases h) (.int .u64 (f.limit : Int)) W (run_cellF 34 _ ⟨w.heap.size, 3, none⟩ _ _ rfl (by kernel_rfl) Tryz.underlying34 rfl W c3) ⟨_, rfl, Below.refl _ _, rfl⟩
    | 8, hdi, _ =>
      obtain rfl := Option.some.inj hdi
      exact OI_value rfl rfl (about_none (by intro c h; cases h)) (by intro c h; cases h) (.pointer (some ⟨w.heap.size, 4, none⟩)) W (by kernel_rfl) ⟨_, rfl, Below.refl _ _, rfl⟩
    | 9, hdi, hdep =>
      obtain rfl := Option.some.inj hdi
      rw [updV_self (show x 8 = _ from hdep 8 (by simp [depTF]))]
      exact OI_value rfl rfl (about_none (by intro c h; cases h)) (by intro c h; cases h) (.int .u64 (f.code : Int)) W (run_cellF 34 _ ⟨w.heap.size, 4, none⟩ _ _ rfl (by kernel_rfl) Tryz.underlying34 rfl W c4) ⟨_, rfl, Below.refl _ _, rfl⟩
    | 10, hdi, _ =>
      obtain rfl := Option.some.inj hdi
      exact OI_value rfl rfl (about_none (by intro c h; cases h)) (by intro c h; cases h) (.pointer (some ⟨w.heap.size, 5, none⟩)) W (by kernel_rfl) ⟨_, rfl, Below.refl _ _, rfl⟩
    | 11, hdi, hdep =>
      obtain rfl := Option.some.inj hdi
      rw [updV_self (show x 10 = _ from hdep 10 (by simp [depTF]))]
      exact OI_value rfl rfl (about_none (by intro c h; cases h)) (by intro c h; cases h) (.bool f.fin) W (run_cellF 4 _ ⟨w.heap.size, 5, none⟩ _ _ rfl (by kernel_rfl) Tryz.underlying4 rfl W c5) ⟨_, rfl, Below.refl _ _, rfl⟩
    | 12, hdi, _ =>
      obtain rfl := Option.some.inj hdi
      exact OI_value rfl rfl (about_none (by intro c h; cases h)) (by intro c h; cases h) (.pointer (some ⟨w.heap.size, 6, none⟩)) W (by kernel_rfl) ⟨_, rfl, Below.refl _ _, rfl⟩
    | 13, hdi, hdep =>
      obtain rfl := Option.some.inj hdi
      rw [updV_self (show x 12 = _ from hdep 12 (by simp [depTF]))]
      exact OI_value rfl rfl (about_none (by intro c h; cases h)) (by intro c h; cases h) (.slice f.data.a f.data.len f.data.cap) W (run_cellF 26 _ ⟨w.heap.size, 6, none⟩ _ _ rfl (by kernel_rfl) Tryz.underlying26 rfl W c6) ⟨_, rfl, Below.refl _ _, rfl⟩
    | 14, hdi, hdep =>
      obtain rfl := Option.some.inj hdi
      rw [updV_self (show x 13 = _ from hdep 13 (by simp [depTF]))]
      refine OI_call rfl rfl (by intro c h; cases h) 17 #[.slice f.data.a f.data.len f.data.cap] (fun _ _ => trivial) (by kernel_rfl) (by decide) ?_
      refine (callsIn_wide.2 (twb_own f.data W (HF.out.data.below bW) HLD.out)).mono ?_
      rintro e w' ⟨g, rfl, ht, hb'⟩
      exact ⟨_, rfl, _, rfl, hb', ⟨g, rfl, ht.low (by omega)⟩⟩
    | 15, hdi, _ =>
      obtain rfl := Option.some.inj hdi
      exact OI_value rfl rfl (about_none (by intro c h; cases h)) (by intro c h; cases h) (.pointer (some ⟨w.heap.size, 7, none⟩)) W (by kernel_rfl) ⟨_, rfl, Below.refl _ _, rfl⟩
    | 16, hdi, hdep =>
      obtain rfl := Option.some.inj hdi
      rw [updV_self (show x 15 = _ from hdep 15 (by simp [depTF]))]
      exact OI_value rfl rfl (about_none (by intro c h; cases h)) (by intro c h; cases h) (.slice f.ranges.a f.ranges.len f.ranges.cap) W (run_cellF 35 _ ⟨w.heap.size, 7, none⟩ _ _ rfl (by kernel_rfl) Tryz.underlying35 rfl W c7) ⟨_, rfl, Below.refl _ _, rfl⟩
    | 17, hdi, hdep =>
      obtain rfl := Option.some.inj hdi
      rw [updV_self (show x 16 = _ from hdep 16 (by simp [depTF]))]
      refine OI_call rfl rfl (by intro c h; cases h) 75 #[.slice f.ranges.a f.ranges.len f.ranges.cap] (fun _ _ => trivial) (by kernel_rfl) (by decide) ?_
      refine (callsIn_wide.2 (twr_own f.ranges W (HF.out.ranges.below bW) HLR.out)).mono ?_
      rintro e w' ⟨g, rfl, ht, hb'⟩
      exact ⟨_, rfl, _, rfl, hb', ⟨g, rfl, ht.low (by omega)⟩⟩
    | 18, hdi, hdep =>
      obtain rfl := Option.some.inj hdi
      obtain ⟨g1, e1, t1⟩ := hdep 14 (by simp [depTF])
      obtain ⟨g2, e2, t2⟩ := hdep 17 (by simp [depTF])
      rw [updV_self (show x 1 = _ from hdep 1 (by simp [depTF])), updV_self (show (updV x 1 _) 3 = _ from hdep 3 (by simp [depTF])), updV_self (show (updV (updV x 1 _) 3 _) 5 = _ from hdep 5 (by simp [depTF])), updV_self (show (updV (updV (updV x 1 _) 3 _) 5 _) 7 = _ from hdep 7 (by simp [depTF])), updV_self (show (updV (updV (updV (updV x 1 _) 3 _) 5 _) 7 _) 9 = _ from hdep 9 (by simp [depTF])), updV_self (show (updV (updV (updV (updV (updV x 1 _) 3 _) 5 _) 7 _) 9 _) 11 = _ from hdep 11 (by simp [depTF])), updV_self (show (updV (updV (updV (updV (updV (updV x 1 _) 3 _) 5 _) 7 _) 9 _) 11 _) 14 = _ from e1), updV_self (show (updV (updV (updV (updV (updV (updV (updV x 1 _) 3 _) 5 _) 7 _) 9 _) 11 _) 14 _) 17 = _ from e2)]
      exact OI_value rfl rfl (about_none (by intro c h; cases h)) (by intro c h; cases h) (.agg (f.twin g1 g2).cells) W (by kernel_rfl) ⟨_, rfl, Below.refl _ _, ⟨g1, g2, rfl, t1, t2⟩⟩
    | _ + 19, hdi, _ => simp at hdi
  case last =>
    intro x U hU hx
    obtain ⟨g1, g2, e9, t1, t2⟩ := hx 18 (by decide)
    have rU := q0.below hU q0.lt
    have l1 := t1.ge
    have l2 := t2.ge
    rw [updV_self e9]
    refine OI_skip rfl rfl (about_none (by intro c h; cases h)) (by intro c h; cases h) (U.setRow (w.heap.size + 1) (f.twin g1 g2).cells) (run_store_row 37 _ _ rfl (w.heap.size + 1) (f.twin g1 g2).cells (by kernel_rfl) (by kernel_rfl) _ _ rU 8 (by kernel_rfl) rfl rfl (by simp [FrM.cells, Value.oneCell'])) ?_
    exact ⟨by kernel_rfl, bSetRow (b0.trans (hU.mono b0.size)) (by omega) _, g1, g2, rU.put _, t1.setRow (by omega) _, t2.setRow (by omega) _⟩
  case done =>
    rintro x U ⟨bU, g1, g2, rU, t1, t2⟩
    simp only [putsV, Act.put, List.setIfInBounds_toArray, List.set_cons_succ, List.set_cons_zero, Nat.reduceAdd]
    gi_wp2_with fail
    exact bodyPost_ret (results_cell_row rfl _ _ (w.heap.size + 1) 37 _ (0, 0) _ rfl rU Tryz.underlying37 rfl (by kernel_rfl)) rfl ⟨g1, g2, rfl, t1.low (by omega), t2.low (by omega), bU⟩
end Go.Proofs.YtaighdppemnglaaGreatDoor

/-! A range over a function whose iterator writes into memory of its own between two rounds, and whose body writes some blocks alone and is never left early. -/
namespace Go.Proofs.YtaighdppemnglaaGreatDoor
open Go Go.RowKit Go.Shelf

/-- All blocks but some lie as they lay. -/
structure KeepP (st : Nat → Prop) (W W' : World) : Prop where
  os : W'.os = W.os
  tape : W'.tape = W.tape
  output : W'.output = W.output
  size : W.heap.size ≤ W'.heap.size
  block : ∀ k, k < W.heap.size → ¬ st k → W'.heap[k]? = W.heap[k]?

theorem KeepP.refl (st : Nat → Prop) (W : World) : KeepP st W W := ⟨rfl, rfl, rfl, Nat.le_refl _, fun _ _ _ => rfl⟩
theorem KeepP.trans {st : Nat → Prop} {A B C : World} (h : KeepP st A B) (k : KeepP st B C) : KeepP st A C :=
  ⟨k.os.trans h.os, k.tape.trans h.tape, k.output.trans h.output, Nat.le_trans h.size k.size, fun i hi hs => (k.block i (Nat.lt_of_lt_of_le hi h.size) hs).trans (h.block i hi hs)⟩
theorem KeepP.of_below {st : Nat → Prop} {W W' : World} (h : Below W.heap.size W W') : KeepP st W W' := ⟨h.os, h.tape, h.output, h.size, fun k hk _ => h.block k hk⟩
theorem KeepP.setRow {st : Nat → Prop} {g : Nat} (hg : st g) (W : World) (cs : Array Value) : KeepP st W (W.setRow g cs) := ⟨rfl, rfl, rfl, by rw [setRow_size]; exact Nat.le_refl _, fun k _ hk => setRow_other W g k cs (fun e => hk (e ▸ hg))⟩
theorem KeepP.setCell {st : Nat → Prop} {g : Nat} (hg : st g) (W : World) (o : Nat) (v : Value) : KeepP st W (W.setCell ⟨g, o, none⟩ v) := ⟨rfl, rfl, rfl, by simp [World.setCell], fun k _ hk => Below.heap_setCell W _ v k (fun e => hk (e ▸ hg))⟩
theorem KeepP.grown {st : Nat → Prop} {g : Nat} (hg : st g) {W W' : World} (h : W.grownBy W' (some g)) : KeepP st W W' := ⟨h.os, h.tape, h.output, h.size, fun k hk hs => h.block k hk (fun e => by injection e with e; exact hs (e ▸ hg))⟩
theorem KeepP.below {st : Nat → Prop} {B : Nat} {W W' : World} (h : KeepP st W W') (hB : ∀ k, st k → B ≤ k) (hs : B ≤ W.heap.size) : Below B W W' := ⟨h.os, h.tape, h.output, h.size, fun k hk => h.block k (by omega) (fun e => by have := hB k e; omega)⟩
theorem KeepP.row {st : Nat → Prop} {g : Nat} {W W' : World} {t : TypeId} {cs : Array Value} (h : KeepP st W W') (hr : Row W g t cs) (hg : ¬ st g) : Row W' g t cs := (h.block g hr.lt hg).trans hr

section
variable {F : Fence} {n : Nat} {P : Program}

/-- What such an iterator answers: it calls its round once for each of the list, in order; what it does beside that, it does in memory of its own. -/
def TellsP {α : Type} (F : Fence) (n : Nat) (P : Program) (gf : Nat) (lb : Array Value) (encs : α → Array Value) (st : Nat → Prop) (S : List α) (w : World) : Prop :=
  ∀ (l : Nat) (J : List α → World → Prop) (W : World), Below w.heap.size w W → (∀ s A B, J s A → Below W.heap.size A B → J s B) →
    (∀ pre x W1, J pre W1 → YieldAt F (n - 1) P l (encs x) W1 fun e W' => e = .returned (.bool true) ∧ J (pre ++ [x]) W' ∧ KeepP st W1 W') → J [] W →
    CallsIn F n P gf (#[.func (.yield l) #[] #[]] ++ lb) W fun e W' => (∃ v, e = .returned v) ∧ J S W'

theorem rangeFunc_tellsP {α : Type} {g : Operand} {ps : Array Tmp} {assign body : Code} {Q : Exit → Act → World → Prop} {a : Act} {w : World}
    (hro : F.round = none) (h1 : 1 ≤ n) {gf : Nat} {lb : Array Value} (hg : a.eval g = .func (.func gf) #[] lb) (hFg : F.fn gf) (eg : ∀ args w, (callFunc gf args).run P w = .ok (.enter gf args) w)
    {encs : α → Array Value} (hps : ∀ x, (encs x).size = ps.size) (st : Nat → Prop) (hst : ∀ k, st k → k < w.heap.size) (S : List α) (hseq : TellsP F (n - 1) P gf lb encs st S w)
    (I : List α → World → Prop) (hI : ∀ s A B, I s A → Below w.heap.size A B → I s B) (h0 : I [] w) (mk : α → Nat → Act) (Rx : α → Nat → World → Prop) (hRx : ∀ x b W W', Rx x b W → W'.heap[b]? = W.heap[b]? → Rx x b W')
    (hassign : ∀ (l : Nat) (x : α) (W : World) (K : Act → World → Prop), (∀ Wa, Below W.heap.size W Wa → W.heap.size < Wa.heap.size → Rx x W.heap.size Wa → K (mk x W.heap.size) Wa) →
      assign.wpIn (F.inRound l) (n - 1 - 1) P (Exit.then K (fun _ _ _ => False)) { tmps := (ps.zip (encs x)).foldl (fun t (p, v) => t.setIfInBounds p v) a.tmps, defers := [] } W)
    (hbody : ∀ (l : Nat) (pre : List α) (x : α) (b : Nat) (W : World), I pre W → Rx x b W → w.heap.size ≤ b → b < W.heap.size →
      body.wpIn (F.inRound l) (n - 1 - 1) P (fun e _ W' => e = .normal ∧ KeepP st W W' ∧ I (pre ++ [x]) W') (mk x b) W)
    (hdone : ∀ (D : Nat) (W : World), w.heap.size ≤ D → I S W → W.heap[D]? = some (.deferred (some [])) → Q .normal { a with defers := { target := .collected D, args := #[] } :: a.defers } W) :
    (Code.rangeFunc g ps assign body).wpIn F n P Q a w := by
  refine wpIn_rangeFunc (fun fn hfn => ?_)
  rw [hro]
  obtain ⟨r0, hr0⟩ : ∃ r0 : Loop, r0 = { state := .ready, pending := none, fn, tmps := a.tmps, params := ps, assign, body, defers := w.heap.size } := ⟨_, rfl⟩
  obtain ⟨W0, hW0⟩ : ∃ W0, W0 = (w.alloc (.deferred (some []))).alloc (.loop r0) := ⟨_, rfl⟩
  have hsz : W0.heap.size = w.heap.size + 2 := by rw [hW0]; simp
  have hD0 : W0.heap[w.heap.size]? = some (.deferred (some [])) := by rw [hW0]; exact (Below.heap_alloc _ _ _ (by simp)).trans (heap_alloc_new w _)
  have hL0 : W0.heap[w.heap.size + 1]? = some (.loop r0) := by
    have := heap_alloc_new (w.alloc (.deferred (some []))) (.loop r0)
    rw [World.size_alloc] at this
    rw [hW0]; exact this
  have hbel0 : Below w.heap.size w W0 := by rw [hW0]; exact ((Below.refl _ w).alloc (Nat.le_refl _) _).alloc (by simp) _
  refine ⟨w.heap.size + 1, [{ target := .collected w.heap.size, args := #[] }], W0, { target := .fn (.func gf) lb, args := #[.func (.yield (w.heap.size + 1)) #[] #[]] }, W0, gf, #[.func (.yield (w.heap.size + 1)) #[] #[]] ++ lb, W0, ?_, ?_, ?_, ?_, fun _ => h1, ?_⟩
  · rw [hW0, hr0]; exact run_enterLoop_outer _ _ _ _ _
  · simp only [resolve, hg]
    simp [go_sem]
  · intro f' hf'
    simp [Target.leads] at hf'
    subst hf'
    exact hFg
  · simp [invoke, go_sem, eg]
  refine (hseq (w.heap.size + 1) (fun pre W => I pre W ∧ W.heap[w.heap.size]? = some (.deferred (some [])) ∧ W.heap[w.heap.size + 1]? = some (.loop r0)) W0 hbel0 ?_ ?_ ⟨hI _ _ _ h0 hbel0, hD0, hL0⟩).mono ?_
  · rintro s A B ⟨hi, hd, hl⟩ hb
    exact ⟨hI _ _ _ hi (hb.mono (by omega)), (hb.block _ (by omega)).trans hd, (hb.block _ (by omega)).trans hl⟩
  · rintro pre x W ⟨hi, hd, hl⟩
    have hlt : w.heap.size + 1 < W.heap.size := (Array.getElem?_eq_some_iff.1 hl).1
    have hy := run_yield (P := P) (args := encs x) hl (by rw [hr0]; exact hps x)
    rw [hr0] at hy
    refine ⟨fn, _, assign, body, hy, roundIn_of_wpIn hfn (hassign _ x W _ (fun Wa hba hsa hxa => ?_))⟩
    have hla := (hba.block _ hlt).trans hl
    have hda := (hba.block _ (show w.heap.size < W.heap.size by omega)).trans hd
    refine ⟨_, run_beginRound hla (by rw [hr0]), ?_⟩
    have hpb : Below w.heap.size Wa (Wa.putObj (w.heap.size + 1) (.loop { r0 with state := .busy })) := below_putObj _ (by omega) (by omega)
    refine wpIn_mono (hbody _ pre x W.heap.size _ (hI _ _ _ (hI _ _ _ hi (hba.mono (by omega))) hpb) (hRx _ _ _ _ hxa (World.putObj_heap_other (by omega))) (by omega) (by rw [World.putObj_size]; exact hsa)) ?_
    rintro e a3 W3 ⟨rfl, hk3, hi3⟩
    have hl3 : W3.heap[w.heap.size + 1]? = some (.loop { r0 with state := .busy }) := (hk3.block _ (by rw [World.putObj_size]; omega) (fun e => by have := hst _ e; omega)).trans (World.putObj_heap_same (by omega))
    have hd3 : W3.heap[w.heap.size]? = some (.deferred (some [])) := (hk3.block _ (by rw [World.putObj_size]; omega) (fun e => by have := hst _ e; omega)).trans ((World.putObj_heap_other (by omega)).trans hda)
    have he := run_endRound (P := P) none hl3
    have hr : ({ { r0 with state := .busy } with state := if (none : Option Code).isNone then .ready else .done, pending := none } : Loop) = r0 := by rw [hr0]; rfl
    rw [hr] at he
    have hs3 : Wa.heap.size ≤ W3.heap.size := by have := hk3.size; rw [World.putObj_size] at this; exact this
    have hp3 : Below w.heap.size W3 (W3.putObj (w.heap.size + 1) (.loop r0)) := below_putObj _ (by omega) (by omega)
    refine ⟨_, _, he, rfl, ⟨hI _ _ _ hi3 hp3, (World.putObj_heap_other (by omega)).trans hd3, World.putObj_heap_same (by omega)⟩, ?_⟩
    refine ⟨?_, ?_, ?_, ?_, fun k hk hks => ?_⟩
    · exact (hp3.os.trans hk3.os).trans (hpb.os.trans hba.os)
    · exact (hp3.tape.trans hk3.tape).trans (hpb.tape.trans hba.tape)
    · exact (hp3.output.trans hk3.output).trans (hpb.output.trans hba.output)
    · rw [World.putObj_size]; have := hba.size; omega
    · by_cases hkl : k = w.heap.size + 1
      · rw [hkl, World.putObj_heap_same (by omega), hl]
      · rw [World.putObj_heap_other hkl, hk3.block k (by rw [World.putObj_size]; have := hba.size; omega) hks, World.putObj_heap_other hkl, hba.block k hk]
  · rintro e W2 ⟨⟨v, rfl⟩, hi, hd, hl⟩
    have he := run_endLoop (P := P) hl (by rw [hr0]; simp)
    rw [show r0.pending = none by rw [hr0]] at he
    have hlt : w.heap.size + 1 < W2.heap.size := (Array.getElem?_eq_some_iff.1 hl).1
    exact ⟨none, _, he, hdone w.heap.size _ (Nat.le_refl _) (hI _ _ _ hi (below_putObj _ (by omega) (by omega))) ((World.putObj_heap_other (by omega)).trans hd)⟩
end
end Go.Proofs.YtaighdppemnglaaGreatDoor

/-! A region that draws its order, with a spine: operations that turn the world, one behind the other, each of which hands its value to the next; all else reads. No program in sight. -/
namespace Go.Proofs.YtaighdppemnglaaGreatDoor
open Go Go.RowKit

section
variable {F : Fence} {n : Nat} {P : Program} {ops : Array Oper} {Q : Exit → Act → World → Prop} {md : Region.Mode}
theorem puts_size : ∀ (ds : List Nat) (a : Act) (k : Nat) (x : Nat → Value), (putsV a ds k x).tmps.size = a.tmps.size
  | [], _, _, _ => rfl
  | d :: ds, a, k, x => by
    rw [putsV, puts_size ds]
    simp [Act.put]
theorem put_far (a : Act) (d : Nat) (v : Value) (h : a.tmps.size ≤ d) : a.put (some d) v = a := by
  simp only [Act.put]
  congr 1
  exact Array.setIfInBounds_eq_of_size_le h
theorem anyIn_spine {a0 : Act} {W0 : World} (V : Nat → Value) (R : Nat → World → Value → Prop) (v0 : Value) (ch ds : List Nat) (dep dcl : Nat → List Nat) (hd : edgesB md ops dep = true) (hcl0 : ((List.range ops.size).all fun j => (dcl j).all fun i => (dep j).contains i || (dep j).any fun q => (dcl q).contains i) = true) (hlen : ds.length = ops.size) (hnd : ds.Nodup) (hchn : ch.Nodup)
    (hord : ∀ k i j, ch[k]? = some j → ch[k + 1]? = some i → j ∈ dep i)
    (hin : ∀ j ∈ ch, j < ops.size)
    (h0 : R 0 W0 v0)
    (hfix : ∀ (x : Nat → Value) (W : World) (m i d : Nat) (u : Value), R m W u → ds[i]? = some d → i ∉ ch → (∀ j ∈ dep i, j ∉ ch → x j = V j) → (∀ k j, ch[k]? = some j → j ∈ dep i → k < m) → (∀ k j, ch[k]? = some j → i ∈ dcl j → m ≤ k) → wpOpIn F n P ops Q i (fun a' W' => a' = (putsV a0 ds 0 x).put (some d) (V i) ∧ W' = W) (putsV a0 ds 0 x) W)
    (hcal : ∀ (x : Nat → Value) (W : World) (k i d : Nat) (u : Value), R k W u → ch[k]? = some i → ds[i]? = some d → (∀ j ∈ dep i, j ∉ ch → x j = V j) → (k = 0 → u = v0) → (∀ p j, k = p + 1 → ch[p]? = some j → x j = u) → wpOpIn F n P ops Q i (fun a' W' => ∃ v', a' = (putsV a0 ds 0 x).put (some d) v' ∧ R (k + 1) W' v') (putsV a0 ds 0 x) W)
    (hdone : ∀ (x : Nat → Value) (W : World) (u : Value), R ch.length W u → (∀ j, j < ops.size → j ∉ ch → x j = V j) → (∀ p j, ch.length = p + 1 → ch[p]? = some j → x j = u) → Q .normal (putsV a0 ds 0 x) W) : wpAnyIn F n P md ops Q ops.size (Array.replicate ops.size false) a0 W0 := by
  refine anyIn_inv2 (Inv := fun l a W => ∃ (x : Nat → Value) (m : Nat) (u : Value), a = putsV a0 ds 0 x ∧ R m W u ∧ (∀ j, On l j → j ∉ ch → x j = V j) ∧ (∀ j, On l j → ∀ i ∈ dep j, On l i) ∧ (∀ k j, ch[k]? = some j → (On l j ↔ k < m)) ∧ m ≤ ch.length ∧ (m = 0 → u = v0) ∧ (∀ p j, m = p + 1 → ch[p]? = some j → x j = u)) dep ops.size rfl hd ?_ ?_ _ _ _ _ (by simp) (by simp) ?_
  · rintro l a W i hl ⟨x, m, u, rfl, h1, h2, h4, h5, h6, h8, h9⟩ hi hno hdep
    have hi' : i < ds.length := by omega
    have hdi : ds[i]? = some ds[i] := List.getElem?_eq_getElem hi'
    have hfx : ∀ j ∈ dep i, j ∉ ch → x j = V j := fun j hj hc => h2 j (hdep j hj) hc
    have hlt : ∀ j, On l j → j < ops.size := by
      intro j hj
      unfold On at hj
      rcases Nat.lt_or_ge j l.size with h | h
      · omega
      · rw [Array.getD_eq_getD_getElem?, Array.getElem?_eq_none h] at hj
        cases hj
    have hback : ∀ j q, j < ops.size → q ∈ dep j → q < j := by
      intro j q hj hq
      have hall2 := List.all_eq_true.1 hd j (by rw [List.mem_range]; exact hj)
      rw [Array.getElem?_eq_getElem hj] at hall2
      simp only [Bool.and_eq_true] at hall2
      obtain ⟨e, he, he2⟩ := List.any_eq_true.1 (List.all_eq_true.1 hall2.1 q hq)
      simp only [Bool.and_eq_true, decide_eq_true_eq] at he2
      have h7 := List.all_eq_true.1 hall2.2 e he
      rw [he2.2] at h7
      simp only [Bool.not_true, Bool.false_or, decide_eq_true_eq] at h7
      omega
    have hclo : ∀ j, On l j → ∀ q ∈ dcl j, On l q := by
      intro j
      induction j using Nat.strongRecOn with
      | _ j ih =>
        intro hj q hq
        have h0 := List.all_eq_true.1 (List.all_eq_true.1 hcl0 j (by rw [List.mem_range]; exact hlt j hj)) q hq
        rw [Bool.or_eq_true] at h0
        rcases h0 with h0 | h0
        · exact h4 j hj q (by simpa using h0)
        · obtain ⟨p, hp, hp2⟩ := List.any_eq_true.1 h0
          exact ih p (hback j p (hlt j hj) hp) (h4 j hj p hp) q (by simpa using hp2)
    have hon : ∀ j, On (l.setIfInBounds i true) j ↔ j = i ∨ On l j := by
      intro j
      constructor
      · intro h
        by_cases e : j = i
        · exact .inl e
        · exact .inr (h.of_set (Ne.symm e))
      · rintro (rfl | h)
        · exact On.self (by omega)
        · exact h.set
    have hcl : ∀ j, On (l.setIfInBounds i true) j → ∀ i' ∈ dep j, On (l.setIfInBounds i true) i' := by
      intro j hj q hq
      rcases (hon j).1 hj with rfl | hj
      · exact (hdep q hq).set
      · exact (h4 j hj q hq).set
    by_cases hc : i ∈ ch
    · obtain ⟨k, hk, hki⟩ := List.getElem_of_mem hc
      have hk' : ch[k]? = some i := by rw [List.getElem?_eq_getElem hk, hki]
      have hmk : m ≤ k := Nat.le_of_not_lt fun h => hno ((h5 k i hk').2 h)
      have hm : m = k := by
        cases k with
        | zero => omega
        | succ p =>
          have hp : ch[p]? = some ch[p] := List.getElem?_eq_getElem (by omega)
          have := (h5 p _ hp).1 (hdep _ (hord p i _ hp hk'))
          omega
      subst hm
      refine wpOpIn_mono ?_ (hcal x W m i ds[i] u h1 hk' hdi hfx h8 h9)
      rintro a' W' ⟨v', rfl, hR⟩
      refine ⟨updV x i v', m + 1, v', ?_, hR, ?_, hcl, ?_, by omega, fun e => by omega, ?_⟩
      · rw [puts_put ds a0 0 i _ x _ hnd hdi, Nat.zero_add]
      · intro j hj hjc
        have hne : j ≠ i := fun e => hjc (e ▸ hc)
        unfold updV
        rw [if_neg hne]
        exact h2 j (((hon j).1 hj).resolve_left hne) hjc
      · intro k j hkj
        rw [hon j, h5 k j hkj]
        constructor
        · rintro (rfl | h)
          · by_cases hkm : k < m
            · omega
            · by_cases hkm2 : m < k
              · obtain ⟨p1, p2⟩ := List.getElem?_eq_some_iff.1 hkj
                obtain ⟨q1, q2⟩ := List.getElem?_eq_some_iff.1 hk'
                exact absurd (q2.trans p2.symm) (List.pairwise_iff_getElem.1 hchn m k q1 p1 hkm2)
              · omega
          · omega
        · intro h
          by_cases hkm : k = m
          · subst hkm
            rw [hkj] at hk'
            exact .inl (Option.some.inj hk')
          · exact .inr (by omega)
      · intro p j hp hpj
        obtain rfl : m = p := by omega
        rw [hk'] at hpj
        obtain rfl := Option.some.inj hpj
        unfold updV
        rw [if_pos rfl]
    · refine wpOpIn_mono ?_ (hfix x W m i ds[i] u h1 hdi hc hfx (fun k j hkj hj => (h5 k j hkj).1 (hdep j hj)) (fun k j hkj hij => Nat.le_of_not_lt fun h => hno (hclo j ((h5 k j hkj).2 h) i hij)))
      rintro a' W' ⟨rfl, rfl⟩
      refine ⟨updV x i (V i), m, u, ?_, h1, ?_, hcl, ?_, h6, h8, ?_⟩
      · rw [puts_put ds a0 0 i _ x _ hnd hdi, Nat.zero_add]
      · intro j hj hjc
        unfold updV
        split
        · rename_i e; rw [e]
        · rename_i e; exact h2 j (((hon j).1 hj).resolve_left e) hjc
      · intro k j hkj
        have hne : j ≠ i := fun e => hc (e ▸ List.mem_of_getElem? hkj)
        rw [hon j, ← h5 k j hkj]
        exact ⟨fun h => h.resolve_left hne, .inr⟩
      · intro p j hp hpj
        have hne : j ≠ i := fun e => hc (e ▸ List.mem_of_getElem? hpj)
        unfold updV
        rw [if_neg hne]
        exact h9 p j hp hpj
  · rintro l a W ⟨x, m, u, rfl, h1, h2, h4, h5, h6, h8, h9⟩ hon
    have hm : m = ch.length := by
      rcases Nat.eq_or_lt_of_le h6 with e | e
      · exact e
      · have hp : ch[m]? = some ch[m] := List.getElem?_eq_getElem e
        have := (h5 m _ hp).1 (hon _ (hin _ (List.getElem_mem e)))
        omega
    subst hm
    exact hdone x W u h1 (fun j hj hjc => h2 j (hon j hj) hjc) h9
  · exact ⟨_, 0, v0, (puts_start a0 ds 0).symm, h0, fun j hj => absurd hj (On.none _ _), fun j hj => absurd hj (On.none _ _), fun k j _ => ⟨fun h => absurd h (On.none _ _), fun h => absurd h (Nat.not_lt_zero _)⟩, Nat.zero_le _, fun _ => rfl, fun p j h => by omega⟩
end
end Go.Proofs.YtaighdppemnglaaGreatDoor
