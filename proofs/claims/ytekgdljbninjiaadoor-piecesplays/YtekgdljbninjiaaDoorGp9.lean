/-
  Out of ChaTwin, ChaSame, ChaTwinO.
-/
import Derived.Test.YtekgdljbninjiaaDoorGp4
import Derived.Test.YtekgdljbninjiaaDoorGp3
import Derived.Test.YtekgdljbninjiaaDoorRows
import Derived.Test.YtekgdljbninjiaaDoorGp1
import Derived.BigRegion

/-! What TwinBytes and LeftBytes do with slices. Cut out of HkLaw.lean. -/
namespace Go.Proofs.YtekgdljbninjiaaDoor
open Go Go.RowKit

/-- A copy with a mark behind it. -/
structure Twin (w : World) (g : Nat) (b : List By) : Prop where
  lt : g < w.heap.size
  cell : ∀ j : Nat, j < b.length → w.cell? ⟨g, j, none⟩ = some (.int .u8 (v8 (gb b j)))
  mark : w.cell? ⟨g, b.length, none⟩ = some (.int .u8 77)
theorem Twin.below {w w' : World} {g : Nat} {b : List By} (h : Twin w g b) (hb : Below w.heap.size w w') : Twin w' g b :=
  ⟨Nat.lt_of_lt_of_le h.lt hb.size, fun j hj => (hb.cell (p := ⟨g, j, none⟩) h.lt).trans (h.cell j hj), (hb.cell (p := ⟨g, b.length, none⟩) h.lt).trans h.mark⟩
def twinS (g n : Nat) (b : List By) : SL := ⟨some ⟨g, 0, none⟩, n, n + 1, g, 0, b⟩
theorem Twin.ok {w : World} {g n : Nat} {b : List By} (h : Twin w g b) (hn : b.length = n) : (twinS g n b).Ok w := by
  subst hn
  refine ⟨rfl, (by show b.length ≤ b.length + 1; omega), fun e => by simp [twinS] at e, fun _ => rfl, fun _ => h.lt, fun j hj => ?_⟩
  show w.cell? ⟨g, 0 + j, none⟩ = _
  rw [Nat.zero_add]
  exact h.cell j hj
theorem twin_sl (q : SL) (w : World) (hq : q.Ok w) (hl : q.len ≤ 4194304) :
    Calls Tryd.prog 7 #[.slice q.a q.len q.cap] w fun e w' => ∃ g, e = .returned (.slice (some ⟨g, 0, none⟩) q.len (q.len + 1)) ∧ Twin w' g q.b ∧ w.heap.size ≤ g ∧ Below w.heap.size w w' := by
  refine (twin_any q.a q.len q.cap (nums q.b) w (by rw [nums_length, hq.hb]) hl (lies_of hq.hb hq.at_ hq.lt hq.cell)).mono ?_
  rintro e w1 ⟨g, rfl, hown, hb⟩
  obtain ⟨h1, h2, h3, h4⟩ := twin_cells (by rw [nums_length, hq.hb]) hown
  exact ⟨g, rfl, ⟨h1, fun j hj => by rw [h3 j (by rw [← hq.hb]; exact hj), nums_get q.b j hj], by rw [hq.hb]; exact h4⟩, h2, hb⟩
theorem left_sl (q : SL) (g : Nat) (w : World) (hq : q.Ok w) (hl : q.len ≤ 4194304) (ht : Twin w g q.b) :
    Calls Tryd.prog 10 #[.slice (some ⟨g, 0, none⟩) q.len (q.len + 1), .slice q.a q.len q.cap] w fun e w' => e = .returned (.bool true) ∧ Below w.heap.size w w' :=
  left_any g q.a q.len q.cap (nums q.b) w (by rw [nums_length, hq.hb]) hl (lies_of hq.hb hq.at_ hq.lt hq.cell) ht.lt (fun j hj => by rw [ht.cell j (by rw [hq.hb]; exact hj), nums_get q.b j (by rw [hq.hb]; exact hj)]) (by have := ht.mark; rw [hq.hb] at this; exact this)

end Go.Proofs.YtekgdljbninjiaaDoor

/-! What SameBytes answers of slices with the same bytes. -/
namespace Go.Proofs.YtekgdljbninjiaaDoor
open Go Go.RowKit

set_option maxHeartbeats 1000000 in
theorem same_sl (p q : SL) (w : World) (hp : p.Ok w) (hq : q.Ok w) (hb : p.b = q.b) (hl : p.len ≤ 8388608) :
    Calls Tryd.prog 13 #[.slice p.a p.len p.cap, .slice q.a q.len q.cap] w fun e w' => e = .returned (.bool true) ∧ Below w.heap.size w w' := by
  have hpq : p.len = q.len := by rw [← hp.hb, ← hq.hb, hb]
  obtain ⟨pa, pl, pc, pg, po, pb⟩ := p
  obtain ⟨qa, ql, qc, qg, qo, qb⟩ := q
  simp only at hb hpq hl ⊢
  subst hb hpq
  have HP := veil hp
  have HQ := veil hq
  clear hp hq
  have h1 : ((pl : Int) != (pl : Int)) = false := by simp
  go_enter Tryd.func13, Tryd.ntmps13
  go_wp2
  go_loopw [5] (fun i wr => ∃ k : Nat, k ≤ pl ∧ i = .int .i64 k ∧ Below w.heap.size w wr)
    (fun i _ => pl - (intOf i).toNat)
  case atStart => exact ⟨0, Nat.zero_le _, rfl, Below.refl _ _⟩
  case round =>
    obtain ⟨k, hk, rfl, hbel⟩ := hrel
    by_cases hlt : k < pl
    · have e1 : pa = some ⟨pg, po, none⟩ := HP.out.at_ (show 0 < pl by omega)
      have e2 : qa = some ⟨qg, qo, none⟩ := HQ.out.at_ (show 0 < pl by omega)
      subst e1 e2
      have c1 : wr.cell? ⟨pg, po + k, none⟩ = some (.int .u8 (v8 (gb pb k))) := (hbel.cell (p := ⟨pg, po + k, none⟩) (HP.out.lt (show 0 < pl by omega))).trans (HP.out.cell k hlt)
      have c2 : wr.cell? ⟨qg, qo + k, none⟩ = some (.int .u8 (v8 (gb pb k))) := (hbel.cell (p := ⟨qg, qo + k, none⟩) (HQ.out.lt (show 0 < pl by omega))).trans (HQ.out.cell k hlt)
      generalize v8 (gb pb k) = y at *
      have hxy : (y != y) = false := by simp
      go_wp2
      go_region
      all_goals go_wp2
      all_goals
        go_roundw
        case rel => exact ⟨k + 1, by omega, by go_num, hbel.drew⟩
        case measure => simp [intOf]; omega
    · obtain rfl : pl = k := by omega
      go_wp2
      go_ret
      exact ⟨rfl, hbel⟩
end Go.Proofs.YtekgdljbninjiaaDoor

/-! The law's copy as a row of its own; three lists apart. -/
namespace Go.Proofs.YtekgdljbninjiaaDoor
open Go Go.RowKit

theorem own_cut {w : World} {base g n : Nat} {xs ys : List Value} (h : w.ownsRow base 5 1 (.slice (some ⟨g, 0, none⟩) (n + 1) (n + 1)) (n + 1) (xs ++ ys)) (hx : xs.length = n) : w.ownsRow base 5 1 (.slice (some ⟨g, 0, none⟩) n (n + 1)) n xs := by
  obtain ⟨_, h2⟩ := h
  rcases h2 with ⟨e, _⟩ | ⟨g', cap, cur, e, hg, hh, _, hm, hs, ht⟩
  · cases e
  · simp only [Value.slice.injEq, Option.some.injEq, Addr.mk.injEq] at e
    obtain ⟨⟨rfl, _⟩, _, rfl⟩ := e
    refine ⟨by rw [hx, Nat.mul_one], .inr ⟨g, n + 1, cur, rfl, hg, hh, by omega, hm, hs, ?_⟩⟩
    rw [Nat.mul_one] at ht
    have h3 := congrArg (List.take n) ht
    rw [List.take_take, show min n (n + 1) = n by omega, List.take_append_of_le_length (by omega), List.take_of_length_le (l := xs) (by omega)] at h3
    rw [Nat.mul_one]
    exact h3
theorem twin_own (q : SL) (w : World) (hq : q.Ok w) (hl : q.len ≤ 4194304) :
    Calls Tryd.prog 7 #[.slice q.a q.len q.cap] w fun e w' => ∃ g, e = .returned (.slice (some ⟨g, 0, none⟩) q.len (q.len + 1)) ∧ Twin w' g q.b ∧ w'.ownsRow w.heap.size 5 1 (.slice (some ⟨g, 0, none⟩) q.len (q.len + 1)) q.len (vb q.b) ∧ Below w.heap.size w w' := by
  refine (twin_any q.a q.len q.cap (nums q.b) w (by rw [nums_length, hq.hb]) hl (lies_of hq.hb hq.at_ hq.lt hq.cell)).mono ?_
  rintro e w1 ⟨g, rfl, hown, hb⟩
  obtain ⟨h1, h2, h3, h4⟩ := twin_cells (by rw [nums_length, hq.hb]) hown
  refine ⟨g, rfl, ⟨h1, fun j hj => by rw [h3 j (by rw [← hq.hb]; exact hj), nums_get q.b j hj], by rw [hq.hb]; exact h4⟩, ?_, hb⟩
  have e1 : twin (nums q.b) = vb q.b ++ [.int .u8 77] := by
    unfold twin nums vb
    simp
  rw [e1] at hown
  exact own_cut hown (by rw [vb_length, hq.hb])
end Go.Proofs.YtekgdljbninjiaaDoor
