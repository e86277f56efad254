/-
  Ranges that are a set, one by one.
-/
import Derived.Test.YtalhfciiflcfbaaGreatDoorRgMem
namespace Go.Proofs.YtalhfciiflcfbaaGreatDoor
open Go Go.RowKit

/-- What a set's ranges are. -/
theorem set_at : ∀ (l : List (Nat × Nat)), Fr.setL l → ∀ j, j < l.length → (gr l j).1 ≤ (gr l j).2 ∧ (gr l j).2 ≤ 4611686018427387903 ∧ (j + 1 < l.length → (gr l j).2 + 1 < (gr l (j + 1)).1)
  | [], _, j, h => by simp at h
  | [(a, b)], hs, 0, _ => ⟨hs.1, hs.2, fun h => by simp at h⟩
  | [(a, b)], _, j + 1, h => by simp at h
  | (a, b) :: (c, d) :: r, hs, 0, _ => ⟨hs.1, hs.2.1, fun _ => hs.2.2.1⟩
  | (a, b) :: (c, d) :: r, hs, j + 1, h => by
    have := set_at ((c, d) :: r) hs.2.2.2 j (by simpa using h)
    have g : ∀ i, gr ((a, b) :: (c, d) :: r) (i + 1) = gr ((c, d) :: r) i := fun i => by simp [gr]
    rw [g, g]
    exact ⟨this.1, this.2.1, fun h' => this.2.2 (by simpa using h')⟩

theorem range_row {W : World} {g : Nat} {t : TypeId} {cs : Array Value} (h : Row W g t cs) : W.rangeAt g 0 cs.toList := by
  intro j v hj
  rw [Nat.zero_add, h.cell j]
  simpa using hj
/-- The first k ranges are as a set's are. -/
def setTo (l : List (Nat × Nat)) (k : Nat) : Prop := ∀ j, j < k → (gr l j).1 ≤ (gr l j).2 ∧ (gr l j).2 ≤ 4611686018427387903 ∧ (0 < j → (gr l (j - 1)).2 + 1 < (gr l j).1)
theorem setTo_L : ∀ (l : List (Nat × Nat)), setTo l l.length → Fr.setL l
  | [], _ => trivial
  | [(a, b)], h => ⟨(h 0 (by simp)).1, (h 0 (by simp)).2.1⟩
  | (a, b) :: (c, d) :: r, h => by
    have h0 := h 0 (by simp)
    have h1 := h 1 (by simp)
    refine ⟨h0.1, h0.2.1, h1.2.2 (by decide), setTo_L ((c, d) :: r) fun j hj => ?_⟩
    have hs := h (j + 1) (by simpa using hj)
    have g : ∀ i, gr ((a, b) :: (c, d) :: r) (i + 1) = gr ((c, d) :: r) i := fun i => by simp [gr]
    rw [g] at hs
    refine ⟨hs.1, hs.2.1, fun hp => ?_⟩
    have := hs.2.2 (by omega)
    rw [show j + 1 - 1 = (j - 1) + 1 by omega, g] at this
    exact this
theorem setTo_succ {l : List (Nat × Nat)} {k : Nat} (h : setTo l k) (h1 : (gr l k).1 ≤ (gr l k).2) (h2 : (gr l k).2 ≤ 4611686018427387903) (h3 : 0 < k → (gr l (k - 1)).2 + 1 < (gr l k).1) : setTo l (k + 1) := fun j hj => by
  rcases Nat.lt_or_ge j k with e | e
  · exact h j e
  · obtain rfl : j = k := by omega
    exact ⟨h1, h2, h3⟩
theorem setL_to (l : List (Nat × Nat)) (h : Fr.setL l) (k : Nat) (hk : k ≤ l.length) : setTo l k := fun j hj => by
  have h1 := set_at l h j (by omega)
  refine ⟨h1.1, h1.2.1, fun hp => ?_⟩
  have h2 := (set_at l h (j - 1) (by omega)).2.2 (by omega)
  rw [show j - 1 + 1 = j by omega] at h2
  exact h2

end Go.Proofs.YtalhfciiflcfbaaGreatDoor
