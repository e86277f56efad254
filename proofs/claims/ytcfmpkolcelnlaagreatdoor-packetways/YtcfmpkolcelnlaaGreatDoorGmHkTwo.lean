/-
  A region that draws its order and holds two calls, one behind the other, and makes two rows of its own, whenever: whatever comes up, the same lies there.
-/
import Derived.Test.YtcfmpkolcelnlaaGreatDoorGmHkHeld
namespace Go.Proofs.YtcfmpkolcelnlaaGreatDoor
open Go Go.RowKit

def ptr (g : Nat) : Value := .pointer (some ⟨g, 0, none⟩)
def rdTwo (i1 i3 i4 i5 : Nat) (c1 c3 c4 c5 : Bool) : List Nat := (if c1 then (if c3 then [] else [i3]) else [i1]) ++ ((if c4 then [] else [i4]) ++ (if c5 then [] else [i5]))

theorem two_two {P : Program} {ops : Array Oper} {Q : Exit → Act → World → Prop} {S : World → Prop} (B : Nat) (T : TypeId) (z : Array Value) (i1 i3 i4 i5 : Nat)
    (tm : Value → Value → Value → Value → Act) (l : Bool → Bool → Bool → Bool → Array Bool) (r1 r3 : Value)
    (hrd : ∀ c1 c3 c4 c5, (c3 = true → c1 = true) → (c3 && (c4 && c5)) = false → Region.ready .any ops (l c1 c3 c4 c5) = rdTwo i1 i3 i4 i5 c1 c3 c4 c5)
    (l1 : ∀ c4 c5, (l false false c4 c5).setIfInBounds i1 true = l true false c4 c5) (l3 : ∀ c4 c5, (l true false c4 c5).setIfInBounds i3 true = l true true c4 c5)
    (l4 : ∀ c1 c3 c5, (l c1 c3 false c5).setIfInBounds i4 true = l c1 c3 true c5) (l5 : ∀ c1 c3 c4, (l c1 c3 c4 false).setIfInBounds i5 true = l c1 c3 c4 true)
    (call1 : ∀ v5 v6 v11 W K, S W → (∀ W', Below W.heap.size W W' → K (tm v5 v6 r1 v11) W') → wpOp P ops Q i1 K (tm v5 v6 undef v11) W)
    (call3 : ∀ v5 v6 v9 W K, S W → (∀ W', Below W.heap.size W W' → K (tm v5 v6 v9 r3) W') → wpOp P ops Q i3 K (tm v5 v6 v9 undef) W)
    (alloc4 : ∀ v6 v9 v11 W K, K (tm (ptr W.heap.size) v6 v9 v11) (W.alloc (.cells z T)) → wpOp P ops Q i4 K (tm undef v6 v9 v11) W)
    (alloc5 : ∀ v5 v9 v11 W K, K (tm v5 (ptr W.heap.size) v9 v11) (W.alloc (.cells z T)) → wpOp P ops Q i5 K (tm v5 undef v9 v11) W)
    (hS : ∀ W W', S W → Below W.heap.size W W' → S W') (hB : ∀ W, S W → B ≤ W.heap.size) (f : Nat)
    (hend : ∀ g5 g6 W, S W → Row W g5 T z → Row W g6 T z → B ≤ g5 → B ≤ g6 → g5 ≠ g6 → wpAnyH P .any ops Q S f (l true true true true) (tm (ptr g5) (ptr g6) r1 r3) W) :
    ∀ W, S W → wpAnyH P .any ops Q S (f + 4) (l false false false false) (tm undef undef undef undef) W := by
  have AL : ∀ (W : World) o, Below W.heap.size W (W.alloc o) := fun W o => (Below.refl _ W).alloc (Nat.le_refl _) o
  have X3 : ∀ g5 g6 W, S W → Row W g5 T z → Row W g6 T z → B ≤ g5 → B ≤ g6 → g5 ≠ g6 → wpAnyH P .any ops Q S (f + 1) (l true false true true) (tm (ptr g5) (ptr g6) r1 undef) W := by
    intro g5 g6 W hSW h5 h6 b5 b6 hne
    refine wpAnyH_all (hrd true false true true (fun h => by cases h) rfl) (by simp [rdTwo]) (fun j hj => ?_)
    obtain rfl : j = i3 := by simpa [rdTwo] using hj
    refine call3 _ _ _ _ _ hSW (fun W' hb => ⟨hS _ _ hSW hb, ?_⟩)
    rw [l3]
    exact hend _ _ _ (hS _ _ hSW hb) (h5.below hb h5.lt) (h6.below hb h6.lt) b5 b6 hne
  have X4 : ∀ g6 W, S W → Row W g6 T z → B ≤ g6 → wpAnyH P .any ops Q S (f + 1) (l true true false true) (tm undef (ptr g6) r1 r3) W := by
    intro g6 W hSW h6 b6
    refine wpAnyH_all (hrd true true false true (fun h => rfl) rfl) (by simp [rdTwo]) (fun j hj => ?_)
    obtain rfl : j = i4 := by simpa [rdTwo] using hj
    refine alloc4 _ _ _ _ _ ⟨hS _ _ hSW (AL _ _), ?_⟩
    rw [l4]
    exact hend _ _ _ (hS _ _ hSW (AL _ _)) (Row.new _ _ _) (h6.alloc _) (hB _ hSW) b6 (by have := h6.lt; omega)
  have X5 : ∀ g5 W, S W → Row W g5 T z → B ≤ g5 → wpAnyH P .any ops Q S (f + 1) (l true true true false) (tm (ptr g5) undef r1 r3) W := by
    intro g5 W hSW h5 b5
    refine wpAnyH_all (hrd true true true false (fun h => rfl) rfl) (by simp [rdTwo]) (fun j hj => ?_)
    obtain rfl : j = i5 := by simpa [rdTwo] using hj
    refine alloc5 _ _ _ _ _ ⟨hS _ _ hSW (AL _ _), ?_⟩
    rw [l5]
    exact hend _ _ _ (hS _ _ hSW (AL _ _)) (h5.alloc _) (Row.new _ _ _) b5 (hB _ hSW) (by have := h5.lt; omega)
  have Y13 : ∀ W, S W → wpAnyH P .any ops Q S (f + 1 + 1) (l true true false false) (tm undef undef r1 r3) W := by
    intro W hSW
    refine wpAnyH_all (hrd true true false false (fun h => rfl) rfl) (by simp [rdTwo]) (fun j hj => ?_)
    rcases (by simpa [rdTwo] using hj : j = i4 ∨ j = i5) with rfl | rfl
    · refine alloc4 _ _ _ _ _ ⟨hS _ _ hSW (AL _ _), ?_⟩
      rw [l4]
      exact X5 _ _ (hS _ _ hSW (AL _ _)) (Row.new _ _ _) (hB _ hSW)
    · refine alloc5 _ _ _ _ _ ⟨hS _ _ hSW (AL _ _), ?_⟩
      rw [l5]
      exact X4 _ _ (hS _ _ hSW (AL _ _)) (Row.new _ _ _) (hB _ hSW)
  have Y14 : ∀ g5 W, S W → Row W g5 T z → B ≤ g5 → wpAnyH P .any ops Q S (f + 1 + 1) (l true false true false) (tm (ptr g5) undef r1 undef) W := by
    intro g5 W hSW h5 b5
    refine wpAnyH_all (hrd true false true false (fun h => rfl) rfl) (by simp [rdTwo]) (fun j hj => ?_)
    rcases (by simpa [rdTwo] using hj : j = i3 ∨ j = i5) with rfl | rfl
    · refine call3 _ _ _ _ _ hSW (fun W' hb => ⟨hS _ _ hSW hb, ?_⟩)
      rw [l3]
      exact X5 _ _ (hS _ _ hSW hb) (h5.below hb h5.lt) b5
    · refine alloc5 _ _ _ _ _ ⟨hS _ _ hSW (AL _ _), ?_⟩
      rw [l5]
      exact X3 _ _ _ (hS _ _ hSW (AL _ _)) (h5.alloc _) (Row.new _ _ _) b5 (hB _ hSW) (by have := h5.lt; omega)
  have Y15 : ∀ g6 W, S W → Row W g6 T z → B ≤ g6 → wpAnyH P .any ops Q S (f + 1 + 1) (l true false false true) (tm undef (ptr g6) r1 undef) W := by
    intro g6 W hSW h6 b6
    refine wpAnyH_all (hrd true false false true (fun h => rfl) rfl) (by simp [rdTwo]) (fun j hj => ?_)
    rcases (by simpa [rdTwo] using hj : j = i3 ∨ j = i4) with rfl | rfl
    · refine call3 _ _ _ _ _ hSW (fun W' hb => ⟨hS _ _ hSW hb, ?_⟩)
      rw [l3]
      exact X4 _ _ (hS _ _ hSW hb) (h6.below hb h6.lt) b6
    · refine alloc4 _ _ _ _ _ ⟨hS _ _ hSW (AL _ _), ?_⟩
      rw [l4]
      exact X3 _ _ _ (hS _ _ hSW (AL _ _)) (Row.new _ _ _) (h6.alloc _) (hB _ hSW) b6 (by have := h6.lt; omega)
  have Y45 : ∀ g5 g6 W, S W → Row W g5 T z → Row W g6 T z → B ≤ g5 → B ≤ g6 → g5 ≠ g6 → wpAnyH P .any ops Q S (f + 1 + 1) (l false false true true) (tm (ptr g5) (ptr g6) undef undef) W := by
    intro g5 g6 W hSW h5 h6 b5 b6 hne
    refine wpAnyH_all (hrd false false true true (fun h => by cases h) rfl) (by simp [rdTwo]) (fun j hj => ?_)
    obtain rfl : j = i1 := by simpa [rdTwo] using hj
    refine call1 _ _ _ _ _ hSW (fun W' hb => ⟨hS _ _ hSW hb, ?_⟩)
    rw [l1]
    exact X3 _ _ _ (hS _ _ hSW hb) (h5.below hb h5.lt) (h6.below hb h6.lt) b5 b6 hne
  have Z1 : ∀ W, S W → wpAnyH P .any ops Q S (f + 1 + 1 + 1) (l true false false false) (tm undef undef r1 undef) W := by
    intro W hSW
    refine wpAnyH_all (hrd true false false false (fun h => rfl) rfl) (by simp [rdTwo]) (fun j hj => ?_)
    rcases (by simpa [rdTwo] using hj : j = i3 ∨ j = i4 ∨ j = i5) with rfl | rfl | rfl
    · refine call3 _ _ _ _ _ hSW (fun W' hb => ⟨hS _ _ hSW hb, ?_⟩)
      rw [l3]
      exact Y13 _ (hS _ _ hSW hb)
    · refine alloc4 _ _ _ _ _ ⟨hS _ _ hSW (AL _ _), ?_⟩
      rw [l4]
      exact Y14 _ _ (hS _ _ hSW (AL _ _)) (Row.new _ _ _) (hB _ hSW)
    · refine alloc5 _ _ _ _ _ ⟨hS _ _ hSW (AL _ _), ?_⟩
      rw [l5]
      exact Y15 _ _ (hS _ _ hSW (AL _ _)) (Row.new _ _ _) (hB _ hSW)
  have Z4 : ∀ g5 W, S W → Row W g5 T z → B ≤ g5 → wpAnyH P .any ops Q S (f + 1 + 1 + 1) (l false false true false) (tm (ptr g5) undef undef undef) W := by
    intro g5 W hSW h5 b5
    refine wpAnyH_all (hrd false false true false (fun h => by cases h) rfl) (by simp [rdTwo]) (fun j hj => ?_)
    rcases (by simpa [rdTwo] using hj : j = i1 ∨ j = i5) with rfl | rfl
    · refine call1 _ _ _ _ _ hSW (fun W' hb => ⟨hS _ _ hSW hb, ?_⟩)
      rw [l1]
      exact Y14 _ _ (hS _ _ hSW hb) (h5.below hb h5.lt) b5
    · refine alloc5 _ _ _ _ _ ⟨hS _ _ hSW (AL _ _), ?_⟩
      rw [l5]
      exact Y45 _ _ _ (hS _ _ hSW (AL _ _)) (h5.alloc _) (Row.new _ _ _) b5 (hB _ hSW) (by have := h5.lt; omega)
  have Z5 : ∀ g6 W, S W → Row W g6 T z → B ≤ g6 → wpAnyH P .any ops Q S (f + 1 + 1 + 1) (l false false false true) (tm undef (ptr g6) undef undef) W := by
    intro g6 W hSW h6 b6
    refine wpAnyH_all (hrd false false false true (fun h => by cases h) rfl) (by simp [rdTwo]) (fun j hj => ?_)
    rcases (by simpa [rdTwo] using hj : j = i1 ∨ j = i4) with rfl | rfl
    · refine call1 _ _ _ _ _ hSW (fun W' hb => ⟨hS _ _ hSW hb, ?_⟩)
      rw [l1]
      exact Y15 _ _ (hS _ _ hSW hb) (h6.below hb h6.lt) b6
    · refine alloc4 _ _ _ _ _ ⟨hS _ _ hSW (AL _ _), ?_⟩
      rw [l4]
      exact Y45 _ _ _ (hS _ _ hSW (AL _ _)) (Row.new _ _ _) (h6.alloc _) (hB _ hSW) b6 (by have := h6.lt; omega)
  intro W hSW
  refine wpAnyH_all (hrd false false false false (fun h => by cases h) rfl) (by simp [rdTwo]) (fun j hj => ?_)
  rcases (by simpa [rdTwo] using hj : j = i1 ∨ j = i4 ∨ j = i5) with rfl | rfl | rfl
  · refine call1 _ _ _ _ _ hSW (fun W' hb => ⟨hS _ _ hSW hb, ?_⟩)
    rw [l1]
    exact Z1 _ (hS _ _ hSW hb)
  · refine alloc4 _ _ _ _ _ ⟨hS _ _ hSW (AL _ _), ?_⟩
    rw [l4]
    exact Z4 _ _ (hS _ _ hSW (AL _ _)) (Row.new _ _ _) (hB _ hSW)
  · refine alloc5 _ _ _ _ _ ⟨hS _ _ hSW (AL _ _), ?_⟩
    rw [l5]
    exact Z5 _ _ (hS _ _ hSW (AL _ _)) (Row.new _ _ _) (hB _ hSW)
end Go.Proofs.YtcfmpkolcelnlaaGreatDoor
