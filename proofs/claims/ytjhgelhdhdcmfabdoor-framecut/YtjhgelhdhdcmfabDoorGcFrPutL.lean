/-
  frame.Put, in the words that the laws' walks ask for.
-/
import Derived.Test.YtjhgelhdhdcmfabDoorGcFrAliveP
namespace Go.Proofs.YtjhgelhdhdcmfabDoor
open Go Go.RowKit

theorem putE_cases (l : List Fr.Frame) : (putE l = 0 ∧ putO l = Fr.putAll l ∧ (∀ f ∈ l, Fr.mayF f) ∧ Fr.sepL false l ∧ l.length ≤ 1024 ∧ (Fr.putAll l).length ≤ 1048576) ∨ ((putE l = 1 ∨ putE l = 3) ∧ putO l = []) := by
  by_cases h : (∀ f ∈ l, Fr.mayF f) ∧ Fr.sepL false l
  · by_cases h2 : 1024 < l.length
    · exact .inr ⟨.inr (putE_many h h2), putO_err (putE_many h h2) (by decide)⟩
    · by_cases h3 : 1048576 < (Fr.putAll l).length
      · exact .inr ⟨.inr (putE_long h h3), putO_err (putE_long h h3) (by decide)⟩
      · exact .inl ⟨putE_ok h h2 h3, putO_ok (putE_ok h h2 h3), h.1, h.2, by omega, by omega⟩
  · exact .inr ⟨.inl (putE_no h), putO_err (putE_no h) (by decide)⟩
/-- frame.Put, in the words that the laws' walks ask for. -/
theorem put_any7 (s : FS) (w : World) (hs : s.Ok w) (hl : s.len ≤ 8388608) (hd : ∀ j, j < s.len → (gf s.l j).data.len ≤ 4000000) (hL : Lens w) (hN : Named w) :
    Calls Tryd.prog 7 #[.slice s.a s.len s.cap] w fun e w' => (∃ q : SL, q.Ok w' ∧ q.Told ∧ ((e = .returned (.tuple #[.slice q.a q.len q.cap, .int .i64 0]) ∧ putE s.fr = 0 ∧ q.b = Fr.putAll s.fr ∧ (∀ f ∈ s.fr, Fr.mayF f) ∧ Fr.sepL false s.fr ∧ s.fr.length ≤ 1024 ∧ q.len ≤ 1048576) ∨ (e = .returned (.tuple #[.slice q.a 0 q.cap, .int .i64 1]) ∧ putE s.fr = 1 ∧ q.len = 0 ∧ q.b = []) ∨ (e = .returned (.tuple #[.slice q.a 0 q.cap, .int .i64 3]) ∧ putE s.fr = 3 ∧ q.len = 0 ∧ q.b = []))) ∧ Below w.heap.size w w' := by
  refine (fr_put s w hs hl hd hL hN).mono ?_
  rintro e w' ⟨v, rfl, hrow, hb⟩
  obtain ⟨q, rfl, hl', hsb, hok, ht⟩ := SL.of_row hrow
  refine ⟨⟨q, hok, ht, ?_⟩, hb⟩
  rcases putE_cases s.fr with ⟨h0, h1, h2, h3, h4, h5⟩ | ⟨h0 | h0, h1⟩
  · refine .inl ⟨by rw [h0]; rfl, h0, by rw [hsb, h1], h2, h3, h4, by rw [hl', h1]; exact h5⟩
  · rw [h1] at hl' hsb
    refine .inr (.inl ⟨?_, h0, hl', hsb⟩)
    rw [h0, hl']
    rfl
  · rw [h1] at hl' hsb
    refine .inr (.inr ⟨?_, h0, hl', hsb⟩)
    rw [h0, hl']
    rfl

end Go.Proofs.YtjhgelhdhdcmfabDoor
