/-
  The ranges of an answer, step by step: no program in sight.
-/
import Derived.Test.YtimhbjlmpojhoaaGreatDoorGg12
namespace Go.Proofs.YtimhbjlmpojhoaaGreatDoor
open Go
namespace Fr
/-- Between two rounds. -/
def Prg (n to0 : Nat) (b0 : List By) (E0 i to : Nat) (acc : List (Nat × Nat)) (b : List By) (e : Nat) : Prop :=
  (E0 ≠ 0 → e = E0) ∧ (E0 = 0 → (e = 0 ∧ i ≤ n ∧ ackLoop n to0 b0 = thenR (ackLoop (n - i) to) (fun l => okR (acc ++ l)) b) ∨ (e ≠ 0 ∧ ackLoop n to0 b0 = .error e))
theorem prg_start (n to0 : Nat) (b0 : List By) (E0 : Nat) : Prg n to0 b0 E0 0 to0 [] b0 E0 := by
  refine ⟨fun _ => rfl, fun h => .inl ⟨h, Nat.zero_le _, ?_⟩⟩
  unfold thenR
  rw [Nat.sub_zero]
  cases hq : ackLoop n to0 b0 with
  | error e => rfl
  | ok p => obtain ⟨l, b'⟩ := p; simp [okR]
theorem prg_dead {n to0 : Nat} {b0 : List By} {E0 i to : Nat} {acc : List (Nat × Nat)} {b : List By} {e : Nat} (h : Prg n to0 b0 E0 i to acc b e) (he : e ≠ 0) (a : List (Nat × Nat)) (c : List By) : Sim (ackLoop n to0) b0 E0 a c e := by
  refine ⟨fun h0 => ?_, h.1⟩
  rcases h.2 h0 with ⟨h1, _⟩ | ⟨_, h2⟩
  · exact absurd h1 he
  · exact .inr ⟨he, h2⟩
theorem prg_live {n to0 : Nat} {b0 : List By} {E0 i to : Nat} {acc : List (Nat × Nat)} {b : List By} (h : Prg n to0 b0 E0 i to acc b 0) : E0 = 0 ∧ i ≤ n ∧ ackLoop n to0 b0 = thenR (ackLoop (n - i) to) (fun l => okR (acc ++ l)) b := by
  have h0 : E0 = 0 := by
    by_cases q : E0 = 0
    · exact q
    · exact (h.1 q).symm
  rcases h.2 h0 with ⟨_, h1, h2⟩ | ⟨h1, _⟩
  · exact ⟨h0, h1, h2⟩
  · exact absurd rfl h1
theorem ack_head (m to : Nat) : ∃ f : Nat → R (List (Nat × Nat)), ackLoop m to = thenR numR fun k => if to < k then noR 5 else f k := by
  cases m with
  | zero => exact ⟨_, rfl⟩
  | succ m => exact ⟨_, rfl⟩
/-- Something is wrong with the next number. -/
theorem prg_bad {n to0 : Nat} {b0 : List By} {E0 i to k : Nat} {acc : List (Nat × Nat)} {b b1 : List By} {e1 : Nat} {so : Bool} (h : Prg n to0 b0 E0 i to acc b 0) (hs : Sim numR b 0 k b1 e1) (hso : so = true ↔ to < k) (hbad : (if so = true ∧ e1 = 0 then 5 else e1) ≠ 0) (a : List (Nat × Nat)) (c : List By) :
    Sim (ackLoop n to0) b0 E0 a c (if so = true ∧ e1 = 0 then 5 else e1) := by
  obtain ⟨h0, _, h2⟩ := prg_live h
  refine ⟨fun _ => .inr ⟨hbad, ?_⟩, fun q => absurd h0 q⟩
  obtain ⟨f, hf⟩ := ack_head (n - i) to
  rw [h2, hf]
  rcases hs.1 rfl with ⟨q1, q2⟩ | ⟨q1, q2⟩
  · subst q1
    by_cases hp : so = true
    · rw [if_pos ⟨hp, rfl⟩]
      unfold thenR
      rw [q2]
      simp only
      rw [if_pos (hso.1 hp)]
      rfl
    · rw [if_neg (fun q => hp q.1)] at hbad
      exact absurd rfl hbad
  · unfold thenR
    rw [q2, if_neg (fun q => q1 q.2)]
/-- The last one. -/
theorem prg_last {n to0 : Nat} {b0 : List By} {E0 to k : Nat} {acc : List (Nat × Nat)} {b b1 : List By} (h : Prg n to0 b0 E0 n to acc b 0) (hs : Sim numR b 0 k b1 0) (hle : k ≤ to) : Sim (ackLoop n to0) b0 E0 (acc ++ [(to - k, to)]) b1 0 := by
  obtain ⟨h0, _, h2⟩ := prg_live h
  refine ⟨fun _ => .inl ⟨rfl, ?_⟩, fun q => absurd h0 q⟩
  have q2 := hs.zero.2
  rw [h2, Nat.sub_self]
  show thenR (thenR numR fun k => if to < k then noR 5 else okR [(to - k, to)]) _ b = _
  unfold thenR
  rw [q2]
  simp only
  rw [if_neg (by omega)]
  rfl
/-- One more. -/
theorem prg_next {n to0 : Nat} {b0 : List By} {E0 i to k gap : Nat} {acc : List (Nat × Nat)} {b b1 b2 : List By} {e2 : Nat} {so : Bool} (h : Prg n to0 b0 E0 i to acc b 0) (hs : Sim numR b 0 k b1 0) (hle : k ≤ to) (hi : i ≠ n) (hs2 : Sim numR b1 0 gap b2 e2) (hso : so = true ↔ to - k < gap + 2) :
    Prg n to0 b0 E0 (i + 1) (to - k - gap - 2) (acc ++ [(to - k, to)]) b2 (if so = true ∧ e2 = 0 then 5 else e2) := by
  obtain ⟨h0, h1, h2⟩ := prg_live h
  refine ⟨fun q => absurd h0 q, fun _ => ?_⟩
  have q2 := hs.zero.2
  obtain ⟨m, hm⟩ : ∃ m, n - i = m + 1 := ⟨n - i - 1, by omega⟩
  have e0 : ackLoop n to0 b0 = thenR (ackLoop (m + 1) to) (fun l => okR (acc ++ l)) b := by rw [h2, hm]
  have e1 : ackLoop (m + 1) to b = (thenR numR fun gap => if to - k < gap + 2 then noR 5 else thenR (ackLoop m (to - k - gap - 2)) fun l => okR ((to - k, to) :: l)) b1 := by
    show (thenR numR fun k => if to < k then noR 5 else thenR numR fun gap => if to - k < gap + 2 then noR 5 else thenR (ackLoop m (to - k - gap - 2)) fun l => okR ((to - k, to) :: l)) b = _
    rw [thenR, q2]
    simp only
    rw [if_neg (by omega)]
  rcases hs2.1 rfl with ⟨q3, q4⟩ | ⟨q3, q4⟩
  · subst q3
    by_cases hp : so = true
    · right
      rw [if_pos ⟨hp, rfl⟩]
      refine ⟨by decide, ?_⟩
      rw [e0, thenR, e1, thenR, q4]
      simp only
      rw [if_pos (hso.1 hp)]
      rfl
    · left
      rw [if_neg (fun q => hp q.1)]
      refine ⟨rfl, by omega, ?_⟩
      have e2' : ackLoop (m + 1) to b = (thenR (ackLoop m (to - k - gap - 2)) fun l => okR ((to - k, to) :: l)) b2 := by
        rw [e1, thenR, q4]
        simp only
        rw [if_neg (fun q => hp (hso.2 q))]
      rw [e0, show n - (i + 1) = m by omega, thenR, e2', thenR, thenR]
      cases hq : ackLoop m (to - k - gap - 2) b2 with
      | error e => rfl
      | ok p => obtain ⟨l, c⟩ := p; simp [okR]
  · right
    rw [if_neg (fun q => q3 q.2)]
    refine ⟨q3, ?_⟩
    rw [e0, thenR, e1, thenR, q4]
theorem prg_other {n to0 : Nat} {b0 : List By} {E0 i to : Nat} {acc : List (Nat × Nat)} {b : List By} {e : Nat} (h : Prg n to0 b0 E0 i to acc b e) (he : e ≠ 0) (to' : Nat) (acc' : List (Nat × Nat)) : Prg n to0 b0 E0 i to' acc' b e := by
  refine ⟨h.1, fun h0 => ?_⟩
  rcases h.2 h0 with ⟨h1, _⟩ | h1
  · exact absurd h1 he
  · exact .inr h1
end Fr
end Go.Proofs.YtimhbjlmpojhoaaGreatDoor
