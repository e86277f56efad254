/-
  What the statements' helper LeftRanges answers of a copy that is kept.
-/
import Derived.Test.YtalhfciiflcfbaaGreatDoorFrTwinR
namespace Go.Proofs.YtalhfciiflcfbaaGreatDoor
open Go Go.RowKit

/-- A copy of ranges, with its mark behind. -/
structure TwinR (w : World) (g : Nat) (l : List (Nat × Nat)) : Prop where
  lt : g < w.heap.size
  cell : ∀ j : Nat, j < l.length → w.cell? ⟨g, j * 2, none⟩ = some (.int .u64 ((gr l j).1 : Int)) ∧ w.cell? ⟨g, j * 2 + 1, none⟩ = some (.int .u64 ((gr l j).2 : Int))
  mark : w.cell? ⟨g, l.length * 2, none⟩ = some (.int .u64 77) ∧ w.cell? ⟨g, l.length * 2 + 1, none⟩ = some (.int .u64 0)
theorem TwinR.below {w w' : World} {g : Nat} {l : List (Nat × Nat)} (h : TwinR w g l) (hb : Below w.heap.size w w') : TwinR w' g l :=
  ⟨Nat.lt_of_lt_of_le h.lt hb.size, fun j hj => ⟨(hb.cell (p := ⟨g, j * 2, none⟩) h.lt).trans (h.cell j hj).1, (hb.cell (p := ⟨g, j * 2 + 1, none⟩) h.lt).trans (h.cell j hj).2⟩, ⟨(hb.cell (p := ⟨g, l.length * 2, none⟩) h.lt).trans h.mark.1, (hb.cell (p := ⟨g, l.length * 2 + 1, none⟩) h.lt).trans h.mark.2⟩⟩
theorem TwinR.of_own {w : World} {base g n : Nat} {l : List (Nat × Nat)} (h : w.ownsRow base 25 2 (.slice (some ⟨g, 0, none⟩) (n + 1) (n + 1)) (n + 1) (vr (l ++ [(77, 0)]))) : TwinR w g l := by
  have hlt := (h.lt g rfl).2
  have hc : ∀ j u, (vr (l ++ [(77, 0)]))[j]? = some u → w.cell? ⟨g, j, none⟩ = some u := fun j u hu => by
    have := h.cells (g := g) rfl j u hu
    rw [add_at, Nat.zero_add] at this
    exact this
  have hg : ∀ j, j < l.length → gr (l ++ [(77, 0)]) j = gr l j := fun j hj => by
    unfold gr
    rw [List.getElem?_append_left hj]
  have hm : gr (l ++ [(77, 0)]) l.length = (77, 0) := by
    unfold gr
    simp
  refine ⟨hlt, fun j hj => ?_, ?_⟩
  · have := vr_at (l ++ [(77, 0)]) j (by rw [List.length_append]; exact Nat.lt_of_lt_of_le hj (Nat.le_add_right _ _))
    rw [hg j hj] at this
    exact ⟨hc _ _ this.1, hc _ _ this.2⟩
  · have := vr_at (l ++ [(77, 0)]) l.length (by simp)
    rw [hm] at this
    exact ⟨hc _ _ this.1, hc _ _ this.2⟩

set_option maxRecDepth 20000 in
set_option maxHeartbeats 400000 in
theorem left_rl (q : RL) (g : Nat) (w : World) (hq : q.Ok w) (hl : q.len ≤ 1048576) (ht : TwinR w g q.l) :
    Calls Tryz.prog 12 #[.slice (some ⟨g, 0, none⟩) q.len (q.len + 1), .slice q.a q.len q.cap] w fun e w' => e = .returned (.bool true) ∧ Below w.heap.size w w' := by
  obtain ⟨a, len, cap, gq, off, l⟩ := q
  have hz : l.length = len := hq.hb
  simp only at hl ht
  have HQ := veil hq
  have HT := veil ht
  have HZ := veil hz
  clear hq ht hz
  have h1 : ((len : Int) != (len : Int)) = false := by simp
  have h2 : ¬ ((len : Int) + 1 ≤ (len : Int)) := by omega
  go_enter Tryz.func12, Tryz.ntmps12
  go_wp2
  go_loopw [5] (fun i wr => ∃ k : Nat, k ≤ len ∧ i = .int .i64 k ∧ Below w.heap.size w wr)
    (fun i _ => len - (intOf i).toNat)
  case atStart => exact ⟨0, Nat.zero_le _, rfl, Below.refl _ _⟩
  case round =>
    obtain ⟨k, hk, rfl, hbel⟩ := hrel
    by_cases hlt : k < len
    · have e2 : a = some ⟨gq, off, none⟩ := HQ.out.at_ (show 0 < len by omega)
      subst e2
      obtain ⟨c1, c2⟩ := (HT.out.below hbel).cell k (by rw [HZ.out]; exact hlt)
      obtain ⟨c3, c4⟩ := (HQ.out.below hbel).cell k hlt
      simp only at c1 c2 c3 c4
      generalize ((gr l k).1 : Int) = y at *
      generalize ((gr l k).2 : Int) = z at *
      go_wp2
      go_quiet (fail)
      go_wp2
      go_roundw
      case rel => exact ⟨k + 1, by omega, by go_num, below_drewN hbel _⟩
      case measure => simp [intOf]; omega
    · obtain rfl : len = k := by omega
      obtain ⟨c1, c2⟩ := (HT.out.below hbel).mark
      rw [HZ.out] at c1 c2
      have B := veil (fun o => hbel.alloc hbel.size o)
      clear hbel
      go_wp2
      go_ret
      exact ⟨rfl, B.out _⟩
end Go.Proofs.YtalhfciiflcfbaaGreatDoor
