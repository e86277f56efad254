/-
  What Put and the document's Put answer, in one shape.
-/
import Derived.Test.YtdoojlffejjbaaaDoorAnswers
namespace Go.Proofs.YtdoojlffejjbaaaDoor
open Go.RowKit

theorem lens_step {w w' : World} (h : Lens w) (hb : Below w.heap.size w w') : Lens w' := by
  have hp : 0 < w.heap.size := by
    rcases Nat.eq_zero_or_pos w.heap.size with h0 | h0
    · have := h.1
      simp [World.cell?, h0] at this
    · exact h0
  exact ⟨(hb.cell (p := ⟨0, 0, none⟩) hp).trans h.1, (hb.cell (p := ⟨0, 1, none⟩) hp).trans h.2.1, (hb.cell (p := ⟨0, 2, none⟩) hp).trans h.2.2.1, (hb.cell (p := ⟨0, 3, none⟩) hp).trans h.2.2.2⟩

set_option maxHeartbeats 400000 in
theorem refput_no (n : Int) (w : World) (h : 4611686018427387903 < n) :
    Calls Tryd.prog 9 #[.int .u64 n] w fun e w' => e = .returned (.tuple #[.slice none 0 0, .int .i64 1]) ∧ w' = w := by
  go_enter Tryd.func9, Tryd.ntmps9
  go_wp2
  go_ret2
  exact ⟨rfl, rfl⟩

theorem IsSize.of (n : Int) : ∃ K, IsSize n K := by
  unfold IsSize
  by_cases h1 : n < 64
  · exact ⟨1, .inl ⟨h1, rfl⟩⟩
  · by_cases h2 : n < 16384
    · exact ⟨2, .inr (.inl ⟨by omega, h2, rfl⟩)⟩
    · by_cases h3 : n < 1073741824
      · exact ⟨4, .inr (.inr (.inl ⟨by omega, h3, rfl⟩))⟩
      · exact ⟨8, .inr (.inr (.inr ⟨by omega, rfl⟩))⟩

/-- Both answer none, or both the same bytes. -/
theorem put_cases (n : Int) (n0 : 0 ≤ n) : ∃ (xs : List Int) (E : Int), xs.length ≤ 11 ∧
    (∀ w, Lens w → Calls Tryd.prog 8 #[.int .u64 n] w fun e w' => ∃ a c, e = .returned (.tuple #[.slice a xs.length c, .int .i64 E]) ∧ OwnsV w.heap.size w' a xs.length c xs ∧ Below w.heap.size w w') ∧
    (∀ w, Calls Tryd.prog 9 #[.int .u64 n] w fun e w' => ∃ a c, e = .returned (.tuple #[.slice a xs.length c, .int .i64 E]) ∧ OwnsV w.heap.size w' a xs.length c xs ∧ Below w.heap.size w w') := by
  by_cases hn : n < 4611686018427387904
  · obtain ⟨K, hK⟩ := IsSize.of n
    refine ⟨putL n, 0, by have := putL_len n; omega, fun w hL => ?_, fun w => ?_⟩
    · exact (put_own n w n0 hn hL).mono fun e w' ⟨g, h1, h2, h3⟩ => ⟨_, _, h1, OwnsV.of h2, h3⟩
    · exact (refput_own n K w n0 hn hK).mono fun e w' ⟨g, c, h1, h2, h3⟩ => ⟨_, c, h1, OwnsV.of h2, h3⟩
  · refine ⟨[], 1, by decide, fun w _ => ?_, fun w => ?_⟩
    · exact (put_no n w (by omega)).mono fun e w' ⟨a1, a2⟩ => ⟨none, 0, a1, OwnsV.none _ _, by rw [a2]; exact Below.refl _ _⟩
    · exact (refput_no n w (by omega)).mono fun e w' ⟨a1, a2⟩ => ⟨none, 0, a1, OwnsV.none _ _, by rw [a2]; exact Below.refl _ _⟩
end Go.Proofs.YtdoojlffejjbaaaDoor
