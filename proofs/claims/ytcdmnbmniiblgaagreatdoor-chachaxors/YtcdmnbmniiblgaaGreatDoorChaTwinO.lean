/-
  The law's copy as a row of its own; three lists apart.
-/
import Derived.Test.YtcdmnbmniiblgaaGreatDoorChaTwin
namespace Go.Proofs.YtcdmnbmniiblgaaGreatDoor
open Go Go.RowKit

theorem own_cut {w : World} {base g n : Nat} {xs ys : List Value} (h : w.ownsRow base 5 1 (.slice (some ⟨g, 0, none⟩) (n + 1) (n + 1)) (n + 1) (xs ++ ys)) (hx : xs.length = n) : w.ownsRow base 5 1 (.slice (some ⟨g, 0, none⟩) n (n + 1)) n xs := by
  obtain ⟨_, h2⟩ := h
  rcases h2 with ⟨e, _⟩ | ⟨g', cap, cur, e, hg, hh, _, hm, hs, ht⟩
  · cases e
  · simp only [Value.slice.injEq, Option.some.injEq, Addr.mk.injEq] at e
    obtain ⟨⟨rfl, _⟩, _, rfl⟩ := e
    refine ⟨by rw [hx, Nat.mul_one], .inr ⟨g, n + 1, cur, rfl, hg, hh, by omega, hm, hs, ?_⟩⟩
    rw [Nat.mul_one] at ht
    have h3 := congrArg (List.take n) ht
    rw [List.take_take, show min n (n + 1) = n by omega, List.take_append_of_le_length (by omega), List.take_of_length_le (l := xs) (by omega)] at h3
    rw [Nat.mul_one]
    exact h3
theorem twin_own (q : SL) (w : World) (hq : q.Ok w) (hl : q.len ≤ 4194304) :
    Calls Tryz.prog 4 #[.slice q.a q.len q.cap] w fun e w' => ∃ g, e = .returned (.slice (some ⟨g, 0, none⟩) q.len (q.len + 1)) ∧ Twin w' g q.b ∧ w'.ownsRow w.heap.size 5 1 (.slice (some ⟨g, 0, none⟩) q.len (q.len + 1)) q.len (vb q.b) ∧ Below w.heap.size w w' := by
  refine (twin_any q.a q.len q.cap (nums q.b) w (by rw [nums_length, hq.hb]) hl (lies_of hq.hb hq.at_ hq.lt hq.cell)).mono ?_
  rintro e w1 ⟨g, rfl, hown, hb⟩
  obtain ⟨h1, h2, h3, h4⟩ := twin_cells (by rw [nums_length, hq.hb]) hown
  refine ⟨g, rfl, ⟨h1, fun j hj => by rw [h3 j (by rw [← hq.hb]; exact hj), nums_get q.b j hj], by rw [hq.hb]; exact h4⟩, ?_, hb⟩
  have e1 : twin (nums q.b) = vb q.b ++ [.int .u8 77] := by
    unfold twin nums vb
    simp
  rw [e1] at hown
  exact own_cut hown (by rw [vb_length, hq.hb])
end Go.Proofs.YtcdmnbmniiblgaaGreatDoor
