/-
  What alive asks, reckoned.
-/
import Derived.Test.YtjhgelhdhdcmfaaDoorGf9
import Derived.Test.YtjhgelhdhdcmfaaDoorGfFrGetN
namespace Go.Proofs.YtjhgelhdhdcmfaaDoor
open Go Go.RowKit

def aF1 : Fr.Frame := ⟨3, 0, 0, 5, 0, false, [], [(1, 3), (7, 9)]⟩
def aF2 : Fr.Frame := ⟨7, 4, 0, 0, 0, true, [97, 98], []⟩
def aF3 : Fr.Frame := ⟨2, 0, 0, 1, 0, false, [], []⟩
theorem a_one {f : Fr.Frame} (h : Fr.mayF f) : (∀ g ∈ [f], Fr.mayF g) ∧ Fr.sepL false [f] := ⟨fun g hg => by rw [List.mem_singleton.1 hg]; exact h, by simp [Fr.sepL]⟩
theorem a_may1 : Fr.mayF aF1 := by
  refine ⟨by simp [Fr.numsF, aF1], ?_⟩
  show Fr.bareF aF1 false false true false false false true ∧ aF1.ranges ≠ [] ∧ aF1.ranges.length ≤ 64 ∧ Fr.setL aF1.ranges
  simp [Fr.bareF, aF1, Fr.setL]
theorem a_may2 : Fr.mayF aF2 := by
  refine ⟨by simp [Fr.numsF, aF2], ?_⟩
  show Fr.bareF aF2 true true false false true true false
  simp [Fr.bareF, aF2]
theorem a_may3 : ¬ Fr.mayF aF3 := by
  rintro ⟨_, h⟩
  have h' : Fr.bareF aF3 false false false false false false false := h
  simp [Fr.bareF, aF3] at h'
theorem a_put1 : Fr.putAll [aF1] = [2, 9, 5, 1, 2, 2, 2] := by decide
theorem a_put2 : Fr.putAll [aF2] = [11, 4, 2, 97, 98] := by decide
theorem a_e1 : putE [aF1] = 0 := putE_ok (a_one a_may1) (by decide) (by rw [a_put1]; decide)
theorem a_e2 : putE [aF2] = 0 := putE_ok (a_one a_may2) (by decide) (by rw [a_put2]; decide)
theorem a_e3 : putE [aF3] = 1 := putE_no fun h => a_may3 (h.1 aF3 (List.mem_singleton.2 rfl))
theorem a_o1 : putO [aF1] = [2, 9, 5, 1, 2, 2, 2] := (putO_ok a_e1).trans a_put1
theorem a_o2 : putO [aF2] = [11, 4, 2, 97, 98] := (putO_ok a_e2).trans a_put2
theorem a_g1 : Fr.getAll [1, 0, 0, 0] = .ok [⟨2, 0, 0, 0, 0, false, [], []⟩, ⟨1, 0, 0, 3, 0, false, [], []⟩] := by rfl
theorem a_g2 : Fr.getAll [3] = .error 5 := by rfl
theorem a_g3 : Fr.getAll [4, 1] = .error 4 := by rfl

/-- A row of the call's own, as a slice. -/
theorem SL.of_row {w : World} {base : Nat} {v : Value} {L : List By} (h : RowK base L w v) : ∃ s : SL, v = .slice s.a s.len s.cap ∧ s.len = L.length ∧ s.b = L ∧ s.Ok w ∧ s.Told := by
  have h' : w.ownsRow base 5 1 v L.length (vb L) := h
  obtain ⟨s, hv, hl, hb, hok, _⟩ := SL.of_own h'
  rcases h.2 with ⟨q, hn⟩ | ⟨g, cap, cur, q, _⟩
  · refine ⟨s, hv.symm, hl, hb, hok, fun p hp => ?_⟩
    rw [← hv] at q
    unfold SL.v at q
    injection q with q1
    rw [hp] at q1
    cases q1
  · have e : s.a = some ⟨g, 0, none⟩ := by
      rw [← hv] at q
      unfold SL.v at q
      injection q
    by_cases h0 : 0 < s.len
    · refine ⟨s, hv.symm, hl, hb, hok, fun p hp => ?_⟩
      have := hok.at_ h0
      rw [hp] at this
      exact Option.some.inj this
    · refine ⟨⟨s.a, s.len, s.cap, g, 0, s.b⟩, hv.symm, hl, hb, ⟨hok.hb, hok.hcap, hok.nil, fun p => absurd p h0, fun p => absurd p h0, fun j hj => absurd (Nat.lt_of_le_of_lt (Nat.zero_le j) hj) h0⟩, fun p hp => ?_⟩
      have : some p = some (⟨g, 0, none⟩ : Addr) := (show some p = s.a from hp.symm).trans e
      exact Option.some.inj this
/-- One frame, as a slice. -/
def fs1 (g : Nat) (f : FrM) : FS := ⟨some ⟨g, 0, none⟩, 1, 1, g, 0, [f]⟩
theorem fs1_ok {w : World} {g : Nat} {t : TypeId} {f : FrM} (h : Row w g t f.cells) (hf : f.Ok w) : (fs1 g f).Ok w :=
  ⟨rfl, Nat.le_refl _, fun e => (by cases e), fun _ => rfl, fun _ => h.lt, fun j hj => (by
    obtain rfl : j = 0 := by have : j < 1 := hj; omega
    exact range_row h), fun j hj => (by
    obtain rfl : j = 0 := by have : j < 1 := hj; omega
    exact hf)⟩
end Go.Proofs.YtjhgelhdhdcmfaaDoor
