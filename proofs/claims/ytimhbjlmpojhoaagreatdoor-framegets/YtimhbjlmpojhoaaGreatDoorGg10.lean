/-
  Out of HkHelp, ChaTwin, ChaTwinO, FrTwin, FrTwinF.
-/
import Derived.Test.YtimhbjlmpojhoaaGreatDoorRows
import Derived.Test.YtimhbjlmpojhoaaGreatDoorGg1
import Derived.WalkKit
import Derived.WalkSpells
import Derived.WalkLawsBesides
import Derived.Test.YtimhbjlmpojhoaaGreatDoorGg9
import Derived.Test.YtimhbjlmpojhoaaGreatDoorGg2
import Derived.Test.YtimhbjlmpojhoaaGreatDoorGg8

/-! What the statements' helpers TwinBytes and LeftBytes do to memory, for 140737488351232 bytes at most. -/
namespace Go.Proofs.YtimhbjlmpojhoaaGreatDoor
open Go.RowKit

/-- Where bytes lie that are read: they are none, or a row of cells. -/
def Lies (w : World) (a : Option Addr) (zs : List Int) : Prop :=
  zs = [] ∨ ∃ b off, a = some ⟨b, off, none⟩ ∧ b < w.heap.size ∧ ∀ j : Nat, j < zs.length → w.cell? ⟨b, off + j, none⟩ = some (.int .u8 (zs[j]?.getD 0))

theorem Tryz.infoByte : (Tryz.prog.info? 5).map (fun i => (i.zero, i.size, i.bytes)) = some (some (.int .u8 0), 1, 1) := by kernel_rfl

/-- What is copied: a row of its own, with a mark behind. -/
def twin (zs : List Int) : List Value := (zs ++ [77]).map (Value.int .u8)

theorem twin_take {zs : List Int} {k : Nat} (h : k < zs.length) : (zs.take k).map (Value.int .u8) ++ [.int .u8 (zs[k]?.getD 0)] = (zs.take (k + 1)).map (Value.int .u8) := by
  rw [List.take_succ_eq_append_getElem h, List.map_append]
  congr 1
  simp [h]

set_option maxHeartbeats 1000000 in
theorem twin_any (a : Option Addr) (len cap : Nat) (zs : List Int) (w : World) (hz : zs.length = len) (hl : len ≤ 140737488351232) (hL : Lies w a zs) :
    Calls Tryz.prog 17 #[.slice a len cap] w fun e w' => ∃ g, e = .returned (.slice (some ⟨g, 0, none⟩) len (len + 1)) ∧
      w'.ownsRow w.heap.size 5 1 (.slice (some ⟨g, 0, none⟩) (len + 1) (len + 1)) (len + 1) (twin zs) ∧ Below w.heap.size w w' := by
  obtain ⟨i0, hi, hz0, hz1, hz2⟩ := info_parts Tryz.infoByte
  have HL : Hid (Lies w a zs) := hL
  have HZ : Hid (zs.length = len) := hz
  have hb1 : i0.bytes * (len + 1) ≤ 281474976710656 := by rw [hz2]; omega
  have hb2 : len + 1 ≤ maxLen := by unfold maxLen; omega
  clear hL hz
  go_enter Tryz.func17, Tryz.ntmps17
  go_wp2_with (at_make; refine wpList_make_own _ rfl _ _ 26 rfl w.heap.size 5 i0 (.int .u8 0) 1 Tryz.underlying26 hi hz0 hz1 .i64 .i64 _ (len + 1) rfl rfl (by omega) hb1 hb2 (Nat.le_refl _) ?_; intro w1 hown1 hgrow1)
  clear hb1 hb2
  have hbel1 : Below w.heap.size w w1 := (Below.refl _ _).grown hgrow1 (Nat.le_refl _) (fun k e => by cases e)
  clear hgrow1
  go_loopw [3, 4] (fun t i wr => ∃ k : Nat, k ≤ len ∧ i = .int .i64 k ∧ t = .slice (some ⟨w.heap.size, 0, none⟩) k (len + 1) ∧
      wr.ownsRow w.heap.size 5 1 (.slice (some ⟨w.heap.size, 0, none⟩) k (len + 1)) k ((zs.take k).map (Value.int .u8)) ∧ Below w.heap.size w wr)
    (fun _ i _ => len - (intOf i).toNat)
  case atStart => exact ⟨0, Nat.zero_le _, rfl, rfl, by simpa using hown1, hbel1⟩
  case round =>
    obtain ⟨k, hk, rfl, rfl, hown, hbel⟩ := hrel
    clear hown1 hbel1
    by_cases hlt : k < len
    · rcases HL.out with h0 | ⟨b, off, ha, hb, hcell⟩
      · have := HZ.out; rw [h0] at this; simp at this; omega
      · subst ha
        have hcx : wr.cell? ⟨b, off + k, none⟩ = some (.int .u8 (zs[k]?.getD 0)) := (hbel.cell (by exact hb)).trans (hcell k (by rw [HZ.out]; exact hlt))
        clear hcell
        go_wp2_with (at_builtin; refine wpList_append_fits _ rfl _ _ 26 rfl w.heap.size 5 i0 1 Tryz.underlying26 hi hz1 w.heap.size k (len + 1) _ rfl (hown.alloc _) ⟨wr.heap.size, 0, none⟩ 1 1 [.int .u8 (zs[k]?.getD 0)] rfl rfl (cell_one_new _ _ _) (by simp [Value.oneCell']) (by omega) ?_; intro w2 hown2 hgrow2)
        have hbel2 : Below w.heap.size w w2 := (hbel.alloc hbel.size _).grown hgrow2 (by have := hbel.size; simp; omega) (fun k e => by cases e; exact Nat.le_refl _)
        rw [twin_take (by rw [HZ.out]; exact hlt)] at hown2
        clear hgrow2 hown
        go_wp2
        go_roundw
        case rel => exact ⟨k + 1, by omega, by go_num, rfl, hown2, hbel2⟩
        case measure => simp [intOf]; omega
    · have hkl : k = len := by omega
      subst hkl
      have hown3 : wr.ownsRow w.heap.size 5 1 (.slice (some ⟨w.heap.size, 0, none⟩) k (k + 1)) k (zs.map (Value.int .u8)) := by
        have := hown; rw [List.take_of_length_le (by rw [HZ.out]; exact Nat.le_refl _)] at this; exact this
      clear hown
      go_wp2_with (at_builtin; refine wpList_append_fits _ rfl _ _ 26 rfl w.heap.size 5 i0 1 Tryz.underlying26 hi hz1 w.heap.size k (k + 1) _ rfl (hown3.alloc _) ⟨wr.heap.size, 0, none⟩ 1 1 [.int .u8 77] rfl rfl (cell_one_new _ _ _) (by simp [Value.oneCell']) (by omega) ?_; intro w2 hown2 hgrow2)
      have hbel2 : Below w.heap.size w w2 := (hbel.alloc hbel.size _).grown hgrow2 (by have := hbel.size; simp; omega) (fun k e => by cases e; exact Nat.le_refl _)
      clear hgrow2 hown3
      go_wp2
      go_ret
      exact ⟨_, rfl, by simpa [twin] using hown2, hbel2⟩

/-- The cells of a copy that is kept. -/
theorem twin_cells {w : World} {base g len : Nat} {zs : List Int} (hz : zs.length = len) (h : w.ownsRow base 5 1 (.slice (some ⟨g, 0, none⟩) (len + 1) (len + 1)) (len + 1) (twin zs)) :
    g < w.heap.size ∧ base ≤ g ∧ (∀ j : Nat, j < len → w.cell? ⟨g, j, none⟩ = some (.int .u8 (zs[j]?.getD 0))) ∧ w.cell? ⟨g, len, none⟩ = some (.int .u8 77) := by
  obtain ⟨h1, h2⟩ := h.lt g rfl
  refine ⟨h2, h1, fun j hj => ?_, ?_⟩
  · rw [h.cellAt j (by omega)]
    unfold twin
    rw [List.getElem?_map, List.getElem?_append_left (by omega)]
    simp [show j < zs.length by omega]
  · rw [h.cellAt len (by omega)]
    unfold twin
    rw [List.getElem?_map, List.getElem?_append_right (by omega)]
    simp [hz]

set_option maxHeartbeats 1000000 in
theorem left_any (g : Nat) (a : Option Addr) (len cap : Nat) (zs : List Int) (w : World) (hz : zs.length = len) (hl : len ≤ 140737488351232) (hL : Lies w a zs) (hg : g < w.heap.size)
    (hT : ∀ j : Nat, j < len → w.cell? ⟨g, j, none⟩ = some (.int .u8 (zs[j]?.getD 0))) (h77 : w.cell? ⟨g, len, none⟩ = some (.int .u8 77)) :
    Calls Tryz.prog 21 #[.slice (some ⟨g, 0, none⟩) len (len + 1), .slice a len cap] w fun e w' => e = .returned (.bool true) ∧ Below w.heap.size w w' := by
  have HL : Hid (Lies w a zs) := hL
  have HZ : Hid (zs.length = len) := hz
  have HT := fun j hj => hT j hj
  have H77 : Hid (w.cell? ⟨g, len, none⟩ = some (.int .u8 77)) := h77
  have h1 : ((len : Int) != (len : Int)) = false := by simp
  have h2 : ¬ ((len : Int) + 1 ≤ (len : Int)) := by omega
  clear hL hz hT h77
  go_enter Tryz.func21, Tryz.ntmps21
  go_wp2
  go_loopw [5] (fun i wr => ∃ k : Nat, k ≤ len ∧ i = .int .i64 k ∧ Below w.heap.size w wr)
    (fun i _ => len - (intOf i).toNat)
  case atStart => exact ⟨0, Nat.zero_le _, rfl, Below.refl _ _⟩
  case round =>
    obtain ⟨k, hk, rfl, hbel⟩ := hrel
    by_cases hlt : k < len
    · rcases HL.out with h0 | ⟨b, off, ha, hb, hcell⟩
      · have := HZ.out; rw [h0] at this; simp at this; omega
      · subst ha
        have hcx : wr.cell? ⟨b, off + k, none⟩ = some (.int .u8 (zs[k]?.getD 0)) := (hbel.cell (by exact hb)).trans (hcell k (by rw [HZ.out]; exact hlt))
        have hcy : wr.cell? ⟨g, k, none⟩ = some (.int .u8 (zs[k]?.getD 0)) := (hbel.cell (by exact hg)).trans (HT k hlt)
        clear hcell HT
        go_wp2
        go_region
        all_goals go_wp2
        all_goals
          go_roundw
          case rel => exact ⟨k + 1, by omega, by go_num, hbel.drew⟩
          case measure => simp [intOf]; omega
    · have hkl : k = len := by omega
      subst hkl
      have hc7 : wr.cell? ⟨g, k, none⟩ = some (.int .u8 77) := (hbel.cell (by exact hg)).trans H77.out
      go_wp2
      go_ret
      exact ⟨rfl, hbel⟩
/-- The cells of bytes, as numbers. -/
def nums (b : List By) : List Int := b.map v8
theorem nums_length (b : List By) : (nums b).length = b.length := by simp [nums]
theorem nums_get (b : List By) (j : Nat) (h : j < b.length) : (nums b)[j]?.getD 0 = v8 (gb b j) := by
  unfold nums gb
  rw [List.getElem?_map, List.getElem?_eq_getElem h]
  rfl
theorem lies_of {w : World} {a : Option Addr} {g off len : Nat} {b : List By} (hb : b.length = len) (ha : 0 < len → a = some ⟨g, off, none⟩) (hgl : 0 < len → g < w.heap.size) (hc : ∀ j : Nat, j < len → w.cell? ⟨g, off + j, none⟩ = some (.int .u8 (v8 (gb b j)))) : Lies w a (nums b) := by
  by_cases h : 0 < len
  · refine .inr ⟨g, off, ha h, hgl h, fun j hj => ?_⟩
    rw [nums_length, hb] at hj
    rw [hc j hj, nums_get b j (by omega)]
  · left
    obtain rfl : b = [] := List.eq_nil_of_length_eq_zero (by omega)
    rfl
end Go.Proofs.YtimhbjlmpojhoaaGreatDoor

/-! What TwinBytes and LeftBytes do with slices. Cut out of HkLaw.lean. -/
namespace Go.Proofs.YtimhbjlmpojhoaaGreatDoor
open Go Go.RowKit

/-- A copy with a mark behind it. -/
structure Twin (w : World) (g : Nat) (b : List By) : Prop where
  lt : g < w.heap.size
  cell : ∀ j : Nat, j < b.length → w.cell? ⟨g, j, none⟩ = some (.int .u8 (v8 (gb b j)))
  mark : w.cell? ⟨g, b.length, none⟩ = some (.int .u8 77)
theorem Twin.below {w w' : World} {g : Nat} {b : List By} (h : Twin w g b) (hb : Below w.heap.size w w') : Twin w' g b :=
  ⟨Nat.lt_of_lt_of_le h.lt hb.size, fun j hj => (hb.cell (p := ⟨g, j, none⟩) h.lt).trans (h.cell j hj), (hb.cell (p := ⟨g, b.length, none⟩) h.lt).trans h.mark⟩
def twinS (g n : Nat) (b : List By) : SL := ⟨some ⟨g, 0, none⟩, n, n + 1, g, 0, b⟩
theorem Twin.ok {w : World} {g n : Nat} {b : List By} (h : Twin w g b) (hn : b.length = n) : (twinS g n b).Ok w := by
  subst hn
  refine ⟨rfl, (by show b.length ≤ b.length + 1; omega), fun e => by simp [twinS] at e, fun _ => rfl, fun _ => h.lt, fun j hj => ?_⟩
  show w.cell? ⟨g, 0 + j, none⟩ = _
  rw [Nat.zero_add]
  exact h.cell j hj
theorem left_sl (q : SL) (g : Nat) (w : World) (hq : q.Ok w) (hl : q.len ≤ 8388608) (ht : Twin w g q.b) :
    Calls Tryz.prog 21 #[.slice (some ⟨g, 0, none⟩) q.len (q.len + 1), .slice q.a q.len q.cap] w fun e w' => e = .returned (.bool true) ∧ Below w.heap.size w w' :=
  left_any g q.a q.len q.cap (nums q.b) w (by rw [nums_length, hq.hb]) (by omega) (lies_of hq.hb hq.at_ hq.lt hq.cell) ht.lt (fun j hj => by rw [ht.cell j (by rw [hq.hb]; exact hj), nums_get q.b j (by rw [hq.hb]; exact hj)]) (by have := ht.mark; rw [hq.hb] at this; exact this)

end Go.Proofs.YtimhbjlmpojhoaaGreatDoor

/-! The law's copy as a row of its own; three lists apart. -/
namespace Go.Proofs.YtimhbjlmpojhoaaGreatDoor
open Go Go.RowKit

theorem own_cut {w : World} {base g n : Nat} {xs ys : List Value} (h : w.ownsRow base 5 1 (.slice (some ⟨g, 0, none⟩) (n + 1) (n + 1)) (n + 1) (xs ++ ys)) (hx : xs.length = n) : w.ownsRow base 5 1 (.slice (some ⟨g, 0, none⟩) n (n + 1)) n xs := by
  obtain ⟨_, h2⟩ := h
  rcases h2 with ⟨e, _⟩ | ⟨g', cap, cur, e, hg, hh, _, hm, hs, ht⟩
  · cases e
  · simp only [Value.slice.injEq, Option.some.injEq, Addr.mk.injEq] at e
    obtain ⟨⟨rfl, _⟩, _, rfl⟩ := e
    refine ⟨by rw [hx, Nat.mul_one], .inr ⟨g, n + 1, cur, rfl, hg, hh, by omega, hm, hs, ?_⟩⟩
    rw [Nat.mul_one] at ht
    have h3 := congrArg (List.take n) ht
    rw [List.take_take, show min n (n + 1) = n by omega, List.take_append_of_le_length (by omega), List.take_of_length_le (l := xs) (by omega)] at h3
    rw [Nat.mul_one]
    exact h3
theorem twin_own (q : SL) (w : World) (hq : q.Ok w) (hl : q.len ≤ 8388608) :
    Calls Tryz.prog 17 #[.slice q.a q.len q.cap] w fun e w' => ∃ g, e = .returned (.slice (some ⟨g, 0, none⟩) q.len (q.len + 1)) ∧ Twin w' g q.b ∧ w'.ownsRow w.heap.size 5 1 (.slice (some ⟨g, 0, none⟩) q.len (q.len + 1)) q.len (vb q.b) ∧ Below w.heap.size w w' := by
  refine (twin_any q.a q.len q.cap (nums q.b) w (by rw [nums_length, hq.hb]) (by omega) (lies_of hq.hb hq.at_ hq.lt hq.cell)).mono ?_
  rintro e w1 ⟨g, rfl, hown, hb⟩
  obtain ⟨h1, h2, h3, h4⟩ := twin_cells (by rw [nums_length, hq.hb]) hown
  refine ⟨g, rfl, ⟨h1, fun j hj => by rw [h3 j (by rw [← hq.hb]; exact hj), nums_get q.b j hj], by rw [hq.hb]; exact h4⟩, ?_, hb⟩
  have e1 : twin (nums q.b) = vb q.b ++ [.int .u8 77] := by
    unfold twin nums vb
    simp
  rw [e1] at hown
  exact own_cut hown (by rw [vb_length, hq.hb])
end Go.Proofs.YtimhbjlmpojhoaaGreatDoor

/-! What the statements' helper TwinFrame does to memory. Written by mktwf.py. -/
namespace Go.Proofs.YtimhbjlmpojhoaaGreatDoor
open Go Go.RowKit

/-- A row of the call's own, of a lower base; in a world behind. -/
theorem own_lowK {w : World} {B B' n z : Nat} {e : TypeId} {v : Value} {xs : List Value} (h : w.ownsRow B e z v n xs) (hB : B' ≤ B) : w.ownsRow B' e z v n xs := by
  obtain ⟨h1, h2⟩ := h
  refine ⟨h1, ?_⟩
  rcases h2 with h2 | ⟨g, c, cur, h3, h4, h5⟩
  · exact .inl h2
  · exact .inr ⟨g, c, cur, h3, Nat.le_trans hB h4, h5⟩
theorem own_keepK {w w' : World} {B n z : Nat} {e : TypeId} {v : Value} {xs : List Value} (h : w.ownsRow B e z v n xs) (hs : ∀ g, v.ownBlock = some g → w'.heap[g]? = w.heap[g]?) : w'.ownsRow B e z v n xs := by
  obtain ⟨h1, h2⟩ := h
  refine ⟨h1, ?_⟩
  rcases h2 with h2 | ⟨g, c, cur, rfl, h4, h5, h6⟩
  · exact .inl h2
  · exact .inr ⟨g, c, cur, rfl, h4, (hs g rfl).trans h5, h6⟩
theorem own_belowK {w w' : World} {B n z : Nat} {e : TypeId} {v : Value} {xs : List Value} (h : w.ownsRow B e z v n xs) (hb : Below w.heap.size w w') : w'.ownsRow B e z v n xs :=
  own_keepK h (fun g e => hb.block g (h.lt g e).2)
theorem own_cutK {w : World} {base g n z : Nat} {e : TypeId} {xs ys : List Value} (h : w.ownsRow base e z (.slice (some ⟨g, 0, none⟩) (n + 1) (n + 1)) (n + 1) (xs ++ ys)) (hx : xs.length = n * z) : w.ownsRow base e z (.slice (some ⟨g, 0, none⟩) n (n + 1)) n xs := by
  obtain ⟨_, h2⟩ := h
  rcases h2 with ⟨e, _⟩ | ⟨g', cap, cur, e, hg, hh, _, hm, hs, ht⟩
  · cases e
  · simp only [Value.slice.injEq, Option.some.injEq, Addr.mk.injEq] at e
    obtain ⟨⟨rfl, _⟩, _, rfl⟩ := e
    refine ⟨hx, .inr ⟨g, n + 1, cur, rfl, hg, hh, by omega, hm, hs, ?_⟩⟩
    have h3 := congrArg (List.take (n * z)) ht
    rw [List.take_take, Nat.min_eq_left (Nat.mul_le_mul_right z (Nat.le_succ n)), List.take_append_of_le_length (by omega), List.take_of_length_le (l := xs) (by omega)] at h3
    exact h3

/-- A copy of bytes that is kept, as a row of its own with a mark behind. -/
structure TwD (B : Nat) (w : World) (g : Nat) (s : SL) : Prop where
  own : w.ownsRow B 5 1 (.slice (some ⟨g, 0, none⟩) s.len (s.len + 1)) s.len (vb s.b)
  twin : Twin w g s.b
structure TwG (B : Nat) (w : World) (g : Nat) (s : RL) : Prop where
  own : w.ownsRow B 114 2 (.slice (some ⟨g, 0, none⟩) s.len (s.len + 1)) s.len (vr s.l)
  twin : TwinR w g s.l
section
variable {B g : Nat} {w w' : World} {s : SL} {r : RL}
theorem TwD.below (h : TwD B w g s) (hb : Below w.heap.size w w') : TwD B w' g s := ⟨own_belowK h.own hb, h.twin.below hb⟩
theorem TwG.below (h : TwG B w g r) (hb : Below w.heap.size w w') : TwG B w' g r := ⟨own_belowK h.own hb, h.twin.below hb⟩
theorem TwD.ge (h : TwD B w g s) : B ≤ g := (h.own.lt g rfl).1
theorem TwG.ge (h : TwG B w g r) : B ≤ g := (h.own.lt g rfl).1
theorem TwD.lt (h : TwD B w g s) : g < w.heap.size := (h.own.lt g rfl).2
theorem TwG.lt (h : TwG B w g r) : g < w.heap.size := (h.own.lt g rfl).2
theorem TwD.low {B' : Nat} (h : TwD B w g s) (hB : B' ≤ B) : TwD B' w g s := ⟨own_lowK h.own hB, h.twin⟩
theorem TwG.low {B' : Nat} (h : TwG B w g r) (hB : B' ≤ B) : TwG B' w g r := ⟨own_lowK h.own hB, h.twin⟩
theorem TwD.setRow {k : Nat} (h : TwD B w g s) (hk : g ≠ k) (cs : Array Value) : TwD B (w.setRow k cs) g s :=
  ⟨own_keepK h.own (fun z e => by cases e; exact setRow_other _ _ _ _ hk), ⟨by rw [setRow_size]; exact h.twin.lt, fun j hj => (World.cell?_of_block (a := ⟨g, j, none⟩) (setRow_other _ _ _ _ hk)).trans (h.twin.cell j hj), (World.cell?_of_block (a := ⟨g, s.b.length, none⟩) (setRow_other _ _ _ _ hk)).trans h.twin.mark⟩⟩
theorem TwG.setRow {k : Nat} (h : TwG B w g r) (hk : g ≠ k) (cs : Array Value) : TwG B (w.setRow k cs) g r :=
  ⟨own_keepK h.own (fun z e => by cases e; exact setRow_other _ _ _ _ hk), ⟨by rw [setRow_size]; exact h.twin.lt, fun j hj => ⟨(World.cell?_of_block (a := ⟨g, j * 2, none⟩) (setRow_other _ _ _ _ hk)).trans (h.twin.cell j hj).1, (World.cell?_of_block (a := ⟨g, j * 2 + 1, none⟩) (setRow_other _ _ _ _ hk)).trans (h.twin.cell j hj).2⟩, ⟨(World.cell?_of_block (a := ⟨g, r.l.length * 2, none⟩) (setRow_other _ _ _ _ hk)).trans h.twin.mark.1, (World.cell?_of_block (a := ⟨g, r.l.length * 2 + 1, none⟩) (setRow_other _ _ _ _ hk)).trans h.twin.mark.2⟩⟩⟩
end
/-- Rows of unlike kinds lie in unlike blocks. -/
theorem TwD.ne {B B' g g' : Nat} {w : World} {s : SL} {r : RL} (h : TwD B w g s) (h' : TwG B' w g' r) : g ≠ g' := by
  intro e
  subst e
  rcases h.own.2 with ⟨q, _⟩ | ⟨z, c, cur, q, _, hh, _⟩
  · cases q
  · rcases h'.own.2 with ⟨q', _⟩ | ⟨z', c', cur', q', _, hh', _⟩
    · cases q'
    · simp only [Value.slice.injEq, Option.some.injEq, Addr.mk.injEq] at q q'
      obtain ⟨⟨rfl, _⟩, _⟩ := q
      obtain ⟨⟨rfl, _⟩, _⟩ := q'
      rw [hh] at hh'
      injection hh' with hh'
      injection hh' with _ hh'
      exact absurd hh' (by decide)
/-- A copy of ranges, as a slice; a frame's copy. -/
def twinRS (g n : Nat) (l : List (Nat × Nat)) : RL := ⟨some ⟨g, 0, none⟩, n, n + 1, g, 0, l⟩
def FrM.twin (f : FrM) (g1 g2 : Nat) : FrM := ⟨f.kind, f.stream, f.offset, f.limit, f.code, f.fin, twinS g1 f.data.len f.data.b, twinRS g2 f.ranges.len f.ranges.l⟩
theorem TwG.ok {B g : Nat} {w : World} {r : RL} (h : TwG B w g r) (hr : r.l.length = r.len) (hsm : ∀ j, (gr r.l j).1 < 18446744073709551616 ∧ (gr r.l j).2 < 18446744073709551616) : (twinRS g r.len r.l).Ok w :=
  ⟨hr, Nat.le_succ _, (fun e => by cases e), fun _ => rfl, fun _ => h.lt, fun j hj => by
    have hj' : j < r.len := hj
    have := h.twin.cell j (by omega)
    rw [show (twinRS g r.len r.l).off + j * 2 = j * 2 from Nat.zero_add _]
    exact this, hsm⟩
theorem FrM.Ok.twin {B g1 g2 : Nat} {w0 w : World} {f : FrM} (hf : f.Ok w0) (h1 : TwD B w g1 f.data) (h2 : TwG B w g2 f.ranges) : (f.twin g1 g2).Ok w :=
  ⟨h1.twin.ok hf.data.hb, h2.ok hf.ranges.hb hf.ranges.small, hf.k8, hf.st, hf.of, hf.li, hf.co⟩
end Go.Proofs.YtimhbjlmpojhoaaGreatDoor

/-! What the statements' helper TwinFrames does to memory. -/
namespace Go.Proofs.YtimhbjlmpojhoaaGreatDoor
open Go Go.RowKit

/-- A frame's cells, by their numbers. -/
def cO (f : FrM) : Nat → Value := fun k => f.cells.toList.getD k undef
theorem cO_cells (f : FrM) : Bf.oC (cO f) = f.cells := rfl
/-- Copies of frames, by the blocks of their data and ranges. -/
def twl (l : List FrM) (G : List (Nat × Nat)) : List FrM := (List.range G.length).map fun j => (gf l j).twin (G[j]?.getD (0, 0)).1 (G[j]?.getD (0, 0)).2
theorem twl_length (l : List FrM) (G : List (Nat × Nat)) : (twl l G).length = G.length := by simp [twl]
theorem twl_get (l : List FrM) (G : List (Nat × Nat)) (j : Nat) (h : j < G.length) : gf (twl l G) j = (gf l j).twin (G[j]?.getD (0, 0)).1 (G[j]?.getD (0, 0)).2 := by
  unfold gf twl
  rw [List.getElem?_map, List.getElem?_range h]
  rfl
/-- The mark behind a copy. -/
def markF : FrM := ⟨0, 0, 0, 0, 77, false, ⟨none, 0, 0, 0, 0, []⟩, ⟨none, 0, 0, 0, 0, []⟩⟩
/-- What is known of the copies' data and ranges: rows of their own, one made behind the other. -/
structure TwAll (B : Nat) (w : World) (l : List FrM) (G : List (Nat × Nat)) : Prop where
  dat : ∀ j, j < G.length → TwD B w (G[j]?.getD (0, 0)).1 (gf l j).data
  rng : ∀ j, j < G.length → TwG B w (G[j]?.getD (0, 0)).2 (gf l j).ranges
  ord : ∀ i j, i < j → j < G.length → (G[i]?.getD (0, 0)).1 < (G[j]?.getD (0, 0)).1 ∧ (G[i]?.getD (0, 0)).1 < (G[j]?.getD (0, 0)).2 ∧ (G[i]?.getD (0, 0)).2 < (G[j]?.getD (0, 0)).1 ∧ (G[i]?.getD (0, 0)).2 < (G[j]?.getD (0, 0)).2
theorem TwAll.below {B : Nat} {w w' : World} {l : List FrM} {G : List (Nat × Nat)} (h : TwAll B w l G) (hb : Below w.heap.size w w') : TwAll B w' l G :=
  ⟨fun j hj => (h.dat j hj).below hb, fun j hj => (h.rng j hj).below hb, h.ord⟩
theorem TwAll.nil (B : Nat) (w : World) (l : List FrM) : TwAll B w l [] := ⟨fun _ h => absurd h (Nat.not_lt_zero _), fun _ h => absurd h (Nat.not_lt_zero _), fun _ _ _ h => absurd h (Nat.not_lt_zero _)⟩
theorem TwAll.same {B : Nat} {w w' : World} {l : List FrM} {G : List (Nat × Nat)} (h : TwAll B w l G) (hs : ∀ b, B ≤ b → b < w.heap.size → w'.heap[b]? = w.heap[b]?) (hz : w.heap.size ≤ w'.heap.size) : TwAll B w' l G := by
  refine ⟨fun j hj => ?_, fun j hj => ?_, h.ord⟩
  · have k := h.dat j hj
    have e := hs _ k.ge k.lt
    exact ⟨own_keepK k.own (fun z q => by cases q; exact e), ⟨Nat.lt_of_lt_of_le k.lt hz, fun i hi => (World.cell?_of_block (a := ⟨_, i, none⟩) e).trans (k.twin.cell i hi), (World.cell?_of_block (a := ⟨_, _, none⟩) e).trans k.twin.mark⟩⟩
  · have k := h.rng j hj
    have e := hs _ k.ge k.lt
    exact ⟨own_keepK k.own (fun z q => by cases q; exact e), ⟨Nat.lt_of_lt_of_le k.lt hz, fun i hi => ⟨(World.cell?_of_block (a := ⟨_, i * 2, none⟩) e).trans (k.twin.cell i hi).1, (World.cell?_of_block (a := ⟨_, i * 2 + 1, none⟩) e).trans (k.twin.cell i hi).2⟩, ⟨(World.cell?_of_block (a := ⟨_, _, none⟩) e).trans k.twin.mark.1, (World.cell?_of_block (a := ⟨_, _, none⟩) e).trans k.twin.mark.2⟩⟩⟩
/-- What stands while the row of copies grows in its own block. -/
theorem TwAll.grow {S : Nat} {w w' : World} {l : List FrM} {G : List (Nat × Nat)} {o : Obj} (h : TwAll (S + 1) w l G) (hg : (w.alloc o).grownBy w' (some S)) : TwAll (S + 1) w' l G := by
  refine h.same (fun b hb hl => ?_) (Nat.le_trans (by simp) hg.size)
  have hl2 : b < (w.alloc o).heap.size := by simp; omega
  rw [hg.block b hl2 (fun e => by injection e with e; omega)]
  exact ((Below.refl w.heap.size w).alloc (Nat.le_refl _) o).block b hl
end Go.Proofs.YtimhbjlmpojhoaaGreatDoor
