/-
  What the statements' helpers TwinBytes and LeftBytes do to memory, for 4194304 bytes at most.
-/
import Derived.Test.YtiecpkkklefjdaaRows
import Derived.Test.YtiecpkkklefjdaaGt1
import Derived.WalkKit
import Derived.WalkSpells
import Derived.WalkLawsBesides
namespace Go.Proofs.Ytiecpkkklefjdaa
open Go.RowKit

/-- Where bytes lie that are read: they are none, or a row of cells. -/
def Lies (w : World) (a : Option Addr) (zs : List Int) : Prop :=
  zs = [] ∨ ∃ b off, a = some ⟨b, off, none⟩ ∧ b < w.heap.size ∧ ∀ j : Nat, j < zs.length → w.cell? ⟨b, off + j, none⟩ = some (.int .u8 (zs[j]?.getD 0))

theorem Try.infoByte : (Try.prog.info? 5).map (fun i => (i.zero, i.size, i.bytes)) = some (some (.int .u8 0), 1, 1) := by kernel_rfl

/-- What is copied: a row of its own, with a mark behind. -/
def twin (zs : List Int) : List Value := (zs ++ [77]).map (Value.int .u8)

theorem twin_take {zs : List Int} {k : Nat} (h : k < zs.length) : (zs.take k).map (Value.int .u8) ++ [.int .u8 (zs[k]?.getD 0)] = (zs.take (k + 1)).map (Value.int .u8) := by
  rw [List.take_succ_eq_append_getElem h, List.map_append]
  congr 1
  simp [h]

set_option maxHeartbeats 1000000 in
theorem twin_any (a : Option Addr) (len cap : Nat) (zs : List Int) (w : World) (hz : zs.length = len) (hl : len ≤ 4194304) (hL : Lies w a zs) :
    Calls Try.prog 9 #[.slice a len cap] w fun e w' => ∃ g, e = .returned (.slice (some ⟨g, 0, none⟩) len (len + 1)) ∧
      w'.ownsRow w.heap.size 5 1 (.slice (some ⟨g, 0, none⟩) (len + 1) (len + 1)) (len + 1) (twin zs) ∧ Below w.heap.size w w' := by
  obtain ⟨i0, hi, hz0, hz1, hz2⟩ := info_parts Try.infoByte
  have HL : Hid (Lies w a zs) := hL
  have HZ : Hid (zs.length = len) := hz
  have hb1 : i0.bytes * (len + 1) ≤ 281474976710656 := by rw [hz2]; omega
  have hb2 : len + 1 ≤ maxLen := by unfold maxLen; omega
  clear hL hz
  go_enter Try.func9, Try.ntmps9
  go_wp2_with (at_make; refine wpList_make_own _ rfl _ _ 22 rfl w.heap.size 5 i0 (.int .u8 0) 1 Try.underlying22 hi hz0 hz1 .i64 .i64 _ (len + 1) rfl rfl (by omega) hb1 hb2 (Nat.le_refl _) ?_; intro w1 hown1 hgrow1)
  clear hb1 hb2
  have hbel1 : Below w.heap.size w w1 := (Below.refl _ _).grown hgrow1 (Nat.le_refl _) (fun k e => by cases e)
  clear hgrow1
  go_loopw [3, 4] (fun t i wr => ∃ k : Nat, k ≤ len ∧ i = .int .i64 k ∧ t = .slice (some ⟨w.heap.size, 0, none⟩) k (len + 1) ∧
      wr.ownsRow w.heap.size 5 1 (.slice (some ⟨w.heap.size, 0, none⟩) k (len + 1)) k ((zs.take k).map (Value.int .u8)) ∧ Below w.heap.size w wr)
    (fun _ i _ => len - (intOf i).toNat)
  case atStart => exact ⟨0, Nat.zero_le _, rfl, rfl, by simpa using hown1, hbel1⟩
  case round =>
    obtain ⟨k, hk, rfl, rfl, hown, hbel⟩ := hrel
    clear hown1 hbel1
    by_cases hlt : k < len
    · rcases HL.out with h0 | ⟨b, off, ha, hb, hcell⟩
      · have := HZ.out; rw [h0] at this; simp at this; omega
      · subst ha
        have hcx : wr.cell? ⟨b, off + k, none⟩ = some (.int .u8 (zs[k]?.getD 0)) := (hbel.cell (by exact hb)).trans (hcell k (by rw [HZ.out]; exact hlt))
        clear hcell
        go_wp2_with (at_builtin; refine wpList_append_fits _ rfl _ _ 22 rfl w.heap.size 5 i0 1 Try.underlying22 hi hz1 w.heap.size k (len + 1) _ rfl (hown.alloc _) ⟨wr.heap.size, 0, none⟩ 1 1 [.int .u8 (zs[k]?.getD 0)] rfl rfl (cell_one_new _ _ _) (by simp [Value.oneCell']) (by omega) ?_; intro w2 hown2 hgrow2)
        have hbel2 : Below w.heap.size w w2 := (hbel.alloc hbel.size _).grown hgrow2 (by have := hbel.size; simp; omega) (fun k e => by cases e; exact Nat.le_refl _)
        rw [twin_take (by rw [HZ.out]; exact hlt)] at hown2
        clear hgrow2 hown
        go_wp2
        go_roundw
        case rel => exact ⟨k + 1, by omega, by go_num, rfl, hown2, hbel2⟩
        case measure => simp [intOf]; omega
    · have hkl : k = len := by omega
      subst hkl
      have hown3 : wr.ownsRow w.heap.size 5 1 (.slice (some ⟨w.heap.size, 0, none⟩) k (k + 1)) k (zs.map (Value.int .u8)) := by
        have := hown; rw [List.take_of_length_le (by rw [HZ.out]; exact Nat.le_refl _)] at this; exact this
      clear hown
      go_wp2_with (at_builtin; refine wpList_append_fits _ rfl _ _ 22 rfl w.heap.size 5 i0 1 Try.underlying22 hi hz1 w.heap.size k (k + 1) _ rfl (hown3.alloc _) ⟨wr.heap.size, 0, none⟩ 1 1 [.int .u8 77] rfl rfl (cell_one_new _ _ _) (by simp [Value.oneCell']) (by omega) ?_; intro w2 hown2 hgrow2)
      have hbel2 : Below w.heap.size w w2 := (hbel.alloc hbel.size _).grown hgrow2 (by have := hbel.size; simp; omega) (fun k e => by cases e; exact Nat.le_refl _)
      clear hgrow2 hown3
      go_wp2
      go_ret
      exact ⟨_, rfl, by simpa [twin] using hown2, hbel2⟩

/-- The cells of a copy that is kept. -/
theorem twin_cells {w : World} {base g len : Nat} {zs : List Int} (hz : zs.length = len) (h : w.ownsRow base 5 1 (.slice (some ⟨g, 0, none⟩) (len + 1) (len + 1)) (len + 1) (twin zs)) :
    g < w.heap.size ∧ base ≤ g ∧ (∀ j : Nat, j < len → w.cell? ⟨g, j, none⟩ = some (.int .u8 (zs[j]?.getD 0))) ∧ w.cell? ⟨g, len, none⟩ = some (.int .u8 77) := by
  obtain ⟨h1, h2⟩ := h.lt g rfl
  refine ⟨h2, h1, fun j hj => ?_, ?_⟩
  · rw [h.cellAt j (by omega)]
    unfold twin
    rw [List.getElem?_map, List.getElem?_append_left (by omega)]
    simp [show j < zs.length by omega]
  · rw [h.cellAt len (by omega)]
    unfold twin
    rw [List.getElem?_map, List.getElem?_append_right (by omega)]
    simp [hz]

set_option maxHeartbeats 1000000 in
theorem left_any (g : Nat) (a : Option Addr) (len cap : Nat) (zs : List Int) (w : World) (hz : zs.length = len) (hl : len ≤ 4194304) (hL : Lies w a zs) (hg : g < w.heap.size)
    (hT : ∀ j : Nat, j < len → w.cell? ⟨g, j, none⟩ = some (.int .u8 (zs[j]?.getD 0))) (h77 : w.cell? ⟨g, len, none⟩ = some (.int .u8 77)) :
    Calls Try.prog 12 #[.slice (some ⟨g, 0, none⟩) len (len + 1), .slice a len cap] w fun e w' => e = .returned (.bool true) ∧ Below w.heap.size w w' := by
  have HL : Hid (Lies w a zs) := hL
  have HZ : Hid (zs.length = len) := hz
  have HT := fun j hj => hT j hj
  have H77 : Hid (w.cell? ⟨g, len, none⟩ = some (.int .u8 77)) := h77
  have h1 : ((len : Int) != (len : Int)) = false := by simp
  have h2 : ¬ ((len : Int) + 1 ≤ (len : Int)) := by omega
  clear hL hz hT h77
  go_enter Try.func12, Try.ntmps12
  go_wp2
  go_loopw [5] (fun i wr => ∃ k : Nat, k ≤ len ∧ i = .int .i64 k ∧ Below w.heap.size w wr)
    (fun i _ => len - (intOf i).toNat)
  case atStart => exact ⟨0, Nat.zero_le _, rfl, Below.refl _ _⟩
  case round =>
    obtain ⟨k, hk, rfl, hbel⟩ := hrel
    by_cases hlt : k < len
    · rcases HL.out with h0 | ⟨b, off, ha, hb, hcell⟩
      · have := HZ.out; rw [h0] at this; simp at this; omega
      · subst ha
        have hcx : wr.cell? ⟨b, off + k, none⟩ = some (.int .u8 (zs[k]?.getD 0)) := (hbel.cell (by exact hb)).trans (hcell k (by rw [HZ.out]; exact hlt))
        have hcy : wr.cell? ⟨g, k, none⟩ = some (.int .u8 (zs[k]?.getD 0)) := (hbel.cell (by exact hg)).trans (HT k hlt)
        clear hcell HT
        go_wp2
        go_region
        all_goals go_wp2
        all_goals
          go_roundw
          case rel => exact ⟨k + 1, by omega, by go_num, hbel.drew⟩
          case measure => simp [intOf]; omega
    · have hkl : k = len := by omega
      subst hkl
      have hc7 : wr.cell? ⟨g, k, none⟩ = some (.int .u8 77) := (hbel.cell (by exact hg)).trans H77.out
      go_wp2
      go_ret
      exact ⟨rfl, hbel⟩
/-- The cells of bytes, as numbers. -/
def nums (b : List By) : List Int := b.map v8
theorem nums_length (b : List By) : (nums b).length = b.length := by simp [nums]
theorem nums_get (b : List By) (j : Nat) (h : j < b.length) : (nums b)[j]?.getD 0 = v8 (gb b j) := by
  unfold nums gb
  rw [List.getElem?_map, List.getElem?_eq_getElem h]
  rfl
theorem lies_of {w : World} {a : Option Addr} {g off len : Nat} {b : List By} (hb : b.length = len) (ha : 0 < len → a = some ⟨g, off, none⟩) (hgl : 0 < len → g < w.heap.size) (hc : ∀ j : Nat, j < len → w.cell? ⟨g, off + j, none⟩ = some (.int .u8 (v8 (gb b j)))) : Lies w a (nums b) := by
  by_cases h : 0 < len
  · refine .inr ⟨g, off, ha h, hgl h, fun j hj => ?_⟩
    rw [nums_length, hb] at hj
    rw [hc j hj, nums_get b j (by omega)]
  · left
    obtain rfl : b = [] := List.eq_nil_of_length_eq_zero (by omega)
    rfl
end Go.Proofs.Ytiecpkkklefjdaa
