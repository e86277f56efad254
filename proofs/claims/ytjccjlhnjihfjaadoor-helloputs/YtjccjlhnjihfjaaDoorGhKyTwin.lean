/-
  What the law's TwinBytes and LeftBytes do with slices of any length.
-/
import Derived.Test.YtjccjlhnjihfjaaDoorGh5
import Derived.Test.YtjccjlhnjihfjaaDoorGh3
namespace Go.Proofs.YtjccjlhnjihfjaaDoor
open Go Go.RowKit

/-- A copy with a mark behind it. -/
structure Twin (w : World) (g : Nat) (b : List By) : Prop where
  lt : g < w.heap.size
  cell : ∀ j : Nat, j < b.length → w.cell? ⟨g, j, none⟩ = some (.int .u8 (v8 (gb b j)))
  mark : w.cell? ⟨g, b.length, none⟩ = some (.int .u8 77)
theorem Twin.below {w w' : World} {g : Nat} {b : List By} (h : Twin w g b) (hb : Below w.heap.size w w') : Twin w' g b :=
  ⟨Nat.lt_of_lt_of_le h.lt hb.size, fun j hj => (hb.cell (p := ⟨g, j, none⟩) h.lt).trans (h.cell j hj), (hb.cell (p := ⟨g, b.length, none⟩) h.lt).trans h.mark⟩
def twinS (g n : Nat) (b : List By) : SL := ⟨some ⟨g, 0, none⟩, n, n + 1, g, 0, b⟩
theorem Twin.ok {w : World} {g n : Nat} {b : List By} (h : Twin w g b) (hn : b.length = n) : (twinS g n b).Ok w := by
  subst hn
  refine ⟨rfl, (by show b.length ≤ b.length + 1; omega), fun e => by simp [twinS] at e, fun _ => rfl, fun _ => h.lt, fun j hj => ?_⟩
  show w.cell? ⟨g, 0 + j, none⟩ = _
  rw [Nat.zero_add]
  exact h.cell j hj
theorem twin_sl (q : SL) (w : World) (hq : q.Ok w) (hl : q.len ≤ 140737488351232) :
    Calls Tryd.prog 15 #[.slice q.a q.len q.cap] w fun e w' => ∃ g, e = .returned (.slice (some ⟨g, 0, none⟩) q.len (q.len + 1)) ∧ Twin w' g q.b ∧ w.heap.size ≤ g ∧ Below w.heap.size w w' := by
  refine (twin_any q.a q.len q.cap (nums q.b) w (by rw [nums_length, hq.hb]) hl (lies_of hq.hb hq.at_ hq.lt hq.cell)).mono ?_
  rintro e w1 ⟨g, rfl, hown, hb⟩
  obtain ⟨h1, h2, h3, h4⟩ := twin_cells (by rw [nums_length, hq.hb]) hown
  exact ⟨g, rfl, ⟨h1, fun j hj => by rw [h3 j (by rw [← hq.hb]; exact hj), nums_get q.b j hj], by rw [hq.hb]; exact h4⟩, h2, hb⟩
theorem left_sl (q : SL) (g : Nat) (w : World) (hq : q.Ok w) (hl : q.len ≤ 140737488351232) (ht : Twin w g q.b) :
    Calls Tryd.prog 18 #[.slice (some ⟨g, 0, none⟩) q.len (q.len + 1), .slice q.a q.len q.cap] w fun e w' => e = .returned (.bool true) ∧ Below w.heap.size w w' :=
  left_any g q.a q.len q.cap (nums q.b) w (by rw [nums_length, hq.hb]) hl (lies_of hq.hb hq.at_ hq.lt hq.cell) ht.lt (fun j hj => by rw [ht.cell j (by rw [hq.hb]; exact hj), nums_get q.b j (by rw [hq.hb]; exact hj)]) (by have := ht.mark; rw [hq.hb] at this; exact this)

end Go.Proofs.YtjccjlhnjihfjaaDoor
