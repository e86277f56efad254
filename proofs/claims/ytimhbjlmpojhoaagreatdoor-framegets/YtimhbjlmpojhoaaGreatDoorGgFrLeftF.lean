/-
  What the statements' helper LeftFrames answers of copies that are kept.
-/
import Derived.Test.YtimhbjlmpojhoaaGreatDoorGg10
import Derived.Test.YtimhbjlmpojhoaaGreatDoorGgFrLeft
import Derived.Deep.RegionHeld3
namespace Go.Proofs.YtimhbjlmpojhoaaGreatDoor
open Go Go.RowKit

/-- Copies of frames that are kept, in a row of their own with a mark behind. -/
structure TwF (B : Nat) (w : World) (T n : Nat) (l : List FrM) (G : List (Nat × Nat)) : Prop where
  len : G.length = n
  own : w.ownsRow B 37 8 (.slice (some ⟨T, 0, none⟩) (n + 1) (n + 1)) (n + 1) (Bf.vo ((twl l G ++ [markF]).map cO))
  all : TwAll (T + 1) w l G
section
variable {B T n : Nat} {w w' : World} {l : List FrM} {G : List (Nat × Nat)}
theorem TwF.below (h : TwF B w T n l G) (hb : Below w.heap.size w w') : TwF B w' T n l G := ⟨h.len, own_belowK h.own hb, h.all.below hb⟩
theorem TwF.lt (h : TwF B w T n l G) : T < w.heap.size := (h.own.lt T rfl).2
theorem TwF.ge (h : TwF B w T n l G) : B ≤ T := (h.own.lt T rfl).1
theorem TwF.row (h : TwF B w T n l G) (k : Nat) (hk : k < n) : w.rangeAt T (k * 8) ((gf l k).twin (G[k]?.getD (0, 0)).1 (G[k]?.getD (0, 0)).2).cells.toList := by
  have hl : ((twl l G ++ [markF]).map cO).length = n + 1 := by rw [List.length_map, List.length_append, twl_length, h.len]; rfl
  have := Bf.own_range8 h.own hl k (by omega)
  have e : Bf.gO ((twl l G ++ [markF]).map cO) k = cO (gf (twl l G) k) := by
    unfold Bf.gO gf
    rw [List.getElem?_map, List.getElem?_append_left (by rw [twl_length, h.len]; exact hk), List.getElem?_eq_getElem (by rw [twl_length, h.len]; exact hk)]
    rfl
  rw [e, cO_cells, twl_get l G k (by rw [h.len]; exact hk), Nat.zero_add] at this
  exact this
theorem TwF.mark (h : TwF B w T n l G) : w.rangeAt T (n * 8) markF.cells.toList := by
  have hl : ((twl l G ++ [markF]).map cO).length = n + 1 := by rw [List.length_map, List.length_append, twl_length, h.len]; rfl
  have := Bf.own_range8 h.own hl n (by omega)
  have e : Bf.gO ((twl l G ++ [markF]).map cO) n = cO markF := by
    unfold Bf.gO
    rw [List.getElem?_map, List.getElem?_append_right (by rw [twl_length, h.len]; exact Nat.le_refl _), twl_length, h.len, Nat.sub_self]
    rfl
  rw [e, cO_cells, Nat.zero_add] at this
  exact this
/-- The copies, as a slice of frames. -/
def twS (T n : Nat) (l : List FrM) (G : List (Nat × Nat)) : FS := ⟨some ⟨T, 0, none⟩, n, n + 1, T, 0, twl l G⟩
theorem TwF.ok (h : TwF B w T n l G) (hf : ∀ j, j < n → ∃ w0, (gf l j).Ok w0) : (twS T n l G).Ok w :=
  ⟨by show (twl l G).length = n; rw [twl_length, h.len], Nat.le_succ _, (fun e => by cases e), fun _ => rfl, fun _ => h.lt, fun j hj => by
    have hj' : j < n := hj
    show w.rangeAt T (0 + j * 8) (gf (twl l G) j).cells.toList
    rw [Nat.zero_add, twl_get l G j (by rw [h.len]; exact hj')]
    exact h.row j hj', fun j hj => by
    have hj' : j < n := hj
    obtain ⟨w0, h0⟩ := hf j hj'
    show (gf (twl l G) j).Ok w
    rw [twl_get l G j (by rw [h.len]; exact hj')]
    exact h0.twin (h.all.dat j (by rw [h.len]; exact hj')) (h.all.rng j (by rw [h.len]; exact hj'))⟩
end
end Go.Proofs.YtimhbjlmpojhoaaGreatDoor
