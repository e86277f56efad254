/-
  Out of FrTwinR, FrLeftR.
-/
import Derived.Test.YtohoieleakieeaaGreatDoorGl1

/-! What the statements' helper TwinRanges does to memory. -/
namespace Go.Proofs.YtohoieleakieeaaGreatDoor
open Go Go.RowKit

theorem vr_take {l : List (Nat × Nat)} {k : Nat} (h : k < l.length) : vr (l.take k) ++ [.int .u64 ((gr l k).1 : Int), .int .u64 ((gr l k).2 : Int)] = vr (l.take (k + 1)) := by
  rw [List.take_succ_eq_append_getElem h, vr_append]
  congr 1
  unfold gr
  rw [List.getElem?_eq_getElem h]
  rfl
theorem cells_two {w : World} {g : Nat} {t : TypeId} {x y : Value} (h : Row w g t #[x, y]) : ∀ j u, ([x, y] : List Value)[j]? = some u → w.cell? ((⟨g, 0, none⟩ : Addr).add j) = some u := by
  intro j u hj
  rw [add_at, Nat.zero_add]
  match j, hj with
  | 0, hj => exact (h.cell 0).trans hj
  | 1, hj => exact (h.cell 1).trans hj

set_option maxRecDepth 20000 in
set_option maxHeartbeats 400000 in
theorem twin_rl (q : RL) (w : World) (hq : q.Ok w) (hl : q.len ≤ 1048576) :
    Calls Tryz.prog 9 #[.slice q.a q.len q.cap] w fun e w' => e = .returned (.slice (some ⟨w.heap.size, 0, none⟩) q.len (q.len + 1)) ∧
      w'.ownsRow w.heap.size 63 2 (.slice (some ⟨w.heap.size, 0, none⟩) (q.len + 1) (q.len + 1)) (q.len + 1) (vr (q.l ++ [(77, 0)])) ∧ Below w.heap.size w w' := by
  obtain ⟨i0, hi, hz0, hz1, hz2⟩ := range_info
  obtain ⟨a, len, cap, g, off, l⟩ := q
  have HQ := veil hq
  have HZ : Hid (l.length = len) := hq.hb
  simp only at hl
  have hb1 : i0.bytes * (len + 1) ≤ 281474976710656 := by rw [hz2]; omega
  have hb2 : len + 1 ≤ maxLen := by unfold maxLen; omega
  clear hq
  go_enter Tryz.func9, Tryz.ntmps9
  go_wp2_with (at_make; refine wpList_make_own _ rfl _ _ 24 rfl w.heap.size 63 i0 (.agg (rC2 (0, 0))) 2 Tryz.underlying24 hi hz0 hz1 .i64 .i64 _ (len + 1) rfl rfl (by omega) hb1 hb2 (Nat.le_refl _) ?_; intro w1 hown1 hgrow1)
  clear hb1 hb2
  have hbel1 : Below w.heap.size w w1 := (Below.refl _ _).grown hgrow1 (Nat.le_refl _) (fun k e => by cases e)
  have O1 := veil hown1
  have B1 := veil hbel1
  clear hgrow1 hown1 hbel1
  go_loopw [3, 4] (fun t i wr => ∃ k : Nat, k ≤ len ∧ i = .int .i64 k ∧ t = .slice (some ⟨w.heap.size, 0, none⟩) k (len + 1) ∧
      wr.ownsRow w.heap.size 63 2 (.slice (some ⟨w.heap.size, 0, none⟩) k (len + 1)) k (vr (l.take k)) ∧ Below w.heap.size w wr)
    (fun _ i _ => len - (intOf i).toNat)
  case atStart => exact ⟨0, Nat.zero_le _, rfl, rfl, O1.out, B1.out⟩
  case round =>
    obtain ⟨k, hk, rfl, rfl, hown, hbel⟩ := hrel
    have HO := veil hown
    have HB := veil hbel
    have hsz := hbel.size
    clear O1 B1 hown
    by_cases hlt : k < len
    · have e1 : a = some ⟨g, off, none⟩ := HQ.out.at_ (show 0 < len by omega)
      subst e1
      obtain ⟨c1, c2⟩ := (HQ.out.below hbel).cell k hlt
      simp only at c1 c2
      have hle : k + 1 ≤ len + 1 := by omega
      clear hbel
      go_wp2_with (at_builtin; refine wpList_append_fits _ rfl _ _ 24 rfl w.heap.size 63 i0 2 Tryz.underlying24 hi hz1 w.heap.size k (len + 1) _ rfl (HO.out.alloc _) ⟨wr.heap.size, 0, none⟩ 1 1 [.int .u64 ((gr l k).1 : Int), .int .u64 ((gr l k).2 : Int)] rfl rfl (cells_two (Row.new _ _ _)) (by simp [Value.oneCell']) hle ?_; intro w2 hown2 hgrow2)
      have B2 := veil (show Below w.heap.size w w2 from (HB.out.alloc hsz _).grown hgrow2 (by simp; omega) (fun k e => by cases e; exact Nat.le_refl _))
      rw [vr_take (by rw [HZ.out]; exact hlt)] at hown2
      have O2 := veil hown2
      clear hgrow2 hown2 c1 c2
      go_wp2
      go_roundw
      case rel => exact ⟨k + 1, by omega, by go_num, rfl, O2.out, B2.out⟩
      case measure => simp [intOf]; omega
    · obtain rfl : k = len := by omega
      have O3 := veil (show wr.ownsRow w.heap.size 63 2 (.slice (some ⟨w.heap.size, 0, none⟩) k (k + 1)) k (vr l) by
        have := HO.out
        rw [List.take_of_length_le (by rw [HZ.out]; exact Nat.le_refl _)] at this
        exact this)
      clear hbel HO
      go_wp2_with (at_builtin; refine wpList_append_fits _ rfl _ _ 24 rfl w.heap.size 63 i0 2 Tryz.underlying24 hi hz1 w.heap.size k (k + 1) _ rfl (O3.out.alloc _) ⟨wr.heap.size, 0, none⟩ 1 1 [.int .u64 77, .int .u64 0] rfl rfl (cells_two (Row.new _ _ _)) (by simp [Value.oneCell']) (Nat.le_refl _) ?_; intro w2 hown2 hgrow2)
      have B2 := veil (show Below w.heap.size w w2 from (HB.out.alloc hsz _).grown hgrow2 (by simp; omega) (fun k e => by cases e; exact Nat.le_refl _))
      have O2 := veil (show w2.ownsRow w.heap.size 63 2 (.slice (some ⟨w.heap.size, 0, none⟩) (k + 1) (k + 1)) (k + 1) (vr (l ++ [(77, 0)])) by rw [vr_append]; exact hown2)
      clear hgrow2 hown2
      go_wp2
      go_ret
      exact ⟨rfl, O2.out, B2.out⟩
end Go.Proofs.YtohoieleakieeaaGreatDoor

/-! What the statements' helper LeftRanges answers of a copy that is kept. -/
namespace Go.Proofs.YtohoieleakieeaaGreatDoor
open Go Go.RowKit

/-- A copy of ranges, with its mark behind. -/
structure TwinR (w : World) (g : Nat) (l : List (Nat × Nat)) : Prop where
  lt : g < w.heap.size
  cell : ∀ j : Nat, j < l.length → w.cell? ⟨g, j * 2, none⟩ = some (.int .u64 ((gr l j).1 : Int)) ∧ w.cell? ⟨g, j * 2 + 1, none⟩ = some (.int .u64 ((gr l j).2 : Int))
  mark : w.cell? ⟨g, l.length * 2, none⟩ = some (.int .u64 77) ∧ w.cell? ⟨g, l.length * 2 + 1, none⟩ = some (.int .u64 0)
theorem TwinR.below {w w' : World} {g : Nat} {l : List (Nat × Nat)} (h : TwinR w g l) (hb : Below w.heap.size w w') : TwinR w' g l :=
  ⟨Nat.lt_of_lt_of_le h.lt hb.size, fun j hj => ⟨(hb.cell (p := ⟨g, j * 2, none⟩) h.lt).trans (h.cell j hj).1, (hb.cell (p := ⟨g, j * 2 + 1, none⟩) h.lt).trans (h.cell j hj).2⟩, ⟨(hb.cell (p := ⟨g, l.length * 2, none⟩) h.lt).trans h.mark.1, (hb.cell (p := ⟨g, l.length * 2 + 1, none⟩) h.lt).trans h.mark.2⟩⟩
theorem TwinR.of_own {w : World} {base g n : Nat} {l : List (Nat × Nat)} (h : w.ownsRow base 63 2 (.slice (some ⟨g, 0, none⟩) (n + 1) (n + 1)) (n + 1) (vr (l ++ [(77, 0)]))) : TwinR w g l := by
  have hlt := (h.lt g rfl).2
  have hc : ∀ j u, (vr (l ++ [(77, 0)]))[j]? = some u → w.cell? ⟨g, j, none⟩ = some u := fun j u hu => by
    have := h.cells (g := g) rfl j u hu
    rw [add_at, Nat.zero_add] at this
    exact this
  have hg : ∀ j, j < l.length → gr (l ++ [(77, 0)]) j = gr l j := fun j hj => by
    unfold gr
    rw [List.getElem?_append_left hj]
  have hm : gr (l ++ [(77, 0)]) l.length = (77, 0) := by
    unfold gr
    simp
  refine ⟨hlt, fun j hj => ?_, ?_⟩
  · have := vr_at (l ++ [(77, 0)]) j (by rw [List.length_append]; exact Nat.lt_of_lt_of_le hj (Nat.le_add_right _ _))
    rw [hg j hj] at this
    exact ⟨hc _ _ this.1, hc _ _ this.2⟩
  · have := vr_at (l ++ [(77, 0)]) l.length (by simp)
    rw [hm] at this
    exact ⟨hc _ _ this.1, hc _ _ this.2⟩

set_option maxRecDepth 20000 in
set_option maxHeartbeats 400000 in
theorem left_rl (q : RL) (g : Nat) (w : World) (hq : q.Ok w) (hl : q.len ≤ 1048576) (ht : TwinR w g q.l) :
    Calls Tryz.prog 13 #[.slice (some ⟨g, 0, none⟩) q.len (q.len + 1), .slice q.a q.len q.cap] w fun e w' => e = .returned (.bool true) ∧ Below w.heap.size w w' := by
  obtain ⟨a, len, cap, gq, off, l⟩ := q
  have hz : l.length = len := hq.hb
  simp only at hl ht
  have HQ := veil hq
  have HT := veil ht
  have HZ := veil hz
  clear hq ht hz
  have h1 : ((len : Int) != (len : Int)) = false := by simp
  have h2 : ¬ ((len : Int) + 1 ≤ (len : Int)) := by omega
  go_enter Tryz.func13, Tryz.ntmps13
  go_wp2
  go_loopw [5] (fun i wr => ∃ k : Nat, k ≤ len ∧ i = .int .i64 k ∧ Below w.heap.size w wr)
    (fun i _ => len - (intOf i).toNat)
  case atStart => exact ⟨0, Nat.zero_le _, rfl, Below.refl _ _⟩
  case round =>
    obtain ⟨k, hk, rfl, hbel⟩ := hrel
    by_cases hlt : k < len
    · have e2 : a = some ⟨gq, off, none⟩ := HQ.out.at_ (show 0 < len by omega)
      subst e2
      obtain ⟨c1, c2⟩ := (HT.out.below hbel).cell k (by rw [HZ.out]; exact hlt)
      obtain ⟨c3, c4⟩ := (HQ.out.below hbel).cell k hlt
      simp only at c1 c2 c3 c4
      generalize ((gr l k).1 : Int) = y at *
      generalize ((gr l k).2 : Int) = z at *
      go_wp2
      go_quiet (fail)
      go_wp2
      go_roundw
      case rel => exact ⟨k + 1, by omega, by go_num, below_drewN hbel _⟩
      case measure => simp [intOf]; omega
    · obtain rfl : len = k := by omega
      obtain ⟨c1, c2⟩ := (HT.out.below hbel).mark
      rw [HZ.out] at c1 c2
      have B := veil (fun o => hbel.alloc hbel.size o)
      clear hbel
      go_wp2
      go_ret
      exact ⟨rfl, B.out _⟩
end Go.Proofs.YtohoieleakieeaaGreatDoor
