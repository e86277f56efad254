/-
  A ledger whose packets are answered one by one, in order, each as long after it was sent: nothing is lost, the times are that, the window grows by what was answered. No program in sight.
-/
import Derived.Test.YtohoieleakieeaaGe5
namespace Go.Proofs.Ytohoieleakieeaa.Lg
open Fr

structure Even (k took z : Nat) (s : Led) : Prop where
  way : s.way = []
  last : s.any = true → s.last < k
  now : s.now ≤ if k = 0 then 0 else (k - 1) * 1000 + took
  fr : s.fronted = true → s.front < k
  meas : s.measured = true → s.smooth = took ∧ s.least = took
  win : s.win = 12000 + k * z
  thr : s.thr = -1
  mom : s.moments = false
theorem Even.zero (took z : Nat) : Even 0 took z new := ⟨rfl, (fun h => by cases h), Nat.le_refl _, (fun h => by cases h), (fun h => by cases h), (by show 12000 = 12000 + 0 * z; omega), rfl, rfl⟩
section
variable {k took z : Nat} {s : Led} (h : Even k took z s) (hk : k < 100) (ht : took ≤ 255) (hz1 : 1 ≤ z) (hz2 : z ≤ 1200)
include h hk ht
theorem Even.now_le : s.now ≤ k * 1000 := by
  have e := h.now
  by_cases c : k = 0
  · rw [if_pos c] at e
    omega
  · rw [if_neg c] at e
    obtain ⟨j, hj⟩ : ∃ j, k = j + 1 := ⟨k - 1, by omega⟩
    rw [hj, Nat.add_sub_cancel] at e
    rw [hj, Nat.add_mul]
    exact Nat.le_trans e (Nat.add_le_add_left (by omega) _)
include hz1 hz2
theorem Even.sentE : sentE s k (z : Int) (k * 1000) = 0 := by
  have := h.now_le hk ht
  unfold Lg.sentE
  rw [if_pos ⟨by omega, fun ha => h.last ha, by omega, by omega, ⟨by omega, this⟩⟩, if_pos (by rw [h.way]; decide)]
theorem Even.sent : Lg.sent s k (z : Int) (k * 1000) true = { s with now := k * 1000, any := true, last := k, asked := k * 1000, way := [⟨k, z, k * 1000, true⟩] } := by
  unfold Lg.sent
  rw [if_pos (h.sentE hk ht hz1 hz2), h.way]
  rfl
omit h hk ht hz1 hz2 in
theorem has_one (k n : Nat) : Rg.hasL [(k, k)] n = decide (n = k) := by
  unfold Rg.hasL
  simp only [List.any_cons, List.any_nil, Bool.or_false]
  by_cases e : n = k
  · subst e; simp
  · rw [decide_eq_false e]
    by_cases q : k ≤ n
    · rw [decide_eq_true q, decide_eq_false (by omega)]; rfl
    · rw [decide_eq_false q]; rfl
omit h ht hz1 hz2 in
theorem set_one : Rg.setOk [(k, k)] := ⟨by show 1 ≤ 64; decide, Nat.le_refl _, by omega⟩
/-- The answer: what is got, that nothing is lost, and what the ledger is then. -/
theorem Even.answer : ansE (Lg.sent s k (z : Int) (k * 1000) true) [(k, k)] 0 (k * 1000 + took) = 0 ∧ ansGot (Lg.sent s k (z : Int) (k * 1000) true) [(k, k)] 0 (k * 1000 + took) = [k] ∧ ansLost (Lg.sent s k (z : Int) (k * 1000) true) [(k, k)] 0 (k * 1000 + took) = [] ∧
    Even (k + 1) took z (Lg.answer (Lg.sent s k (z : Int) (k * 1000) true) [(k, k)] 0 (k * 1000 + took)) ∧ (Lg.answer (Lg.sent s k (z : Int) (k * 1000) true) [(k, k)] 0 (k * 1000 + took)).latest = took ∧ (Lg.answer (Lg.sent s k (z : Int) (k * 1000) true) [(k, k)] 0 (k * 1000 + took)).measured = true := by
  obtain ⟨q, hq⟩ : ∃ q, Lg.sent s k (z : Int) (k * 1000) true = q := ⟨_, rfl⟩
  have e0 := h.sent hk ht hz1 hz2
  rw [hq] at e0 ⊢
  have qway : q.way = [⟨k, z, k * 1000, true⟩] := by rw [e0]
  have hE : ansE q [(k, k)] 0 (k * 1000 + took) = 0 := by
    unfold ansE
    rw [if_pos ⟨set_one hk, by simp, by omega, ⟨by omega, by rw [e0]; show k * 1000 ≤ _; omega⟩⟩, if_pos ⟨by rw [e0], by rw [e0]; exact Nat.le_refl k⟩]
  have hH : hitL q [(k, k)] = [⟨k, z, k * 1000, true⟩] := by
    unfold hitL
    rw [qway]
    simp only [List.filter_cons, has_one, decide_true, if_true, List.filter_nil]
  have hS : (struck q [(k, k)] 0 (k * 1000 + took)).way = [] := by
    rw [(struck_way q _ _ _).1, qway]
    simp only [List.filter_cons, has_one, decide_true, Bool.not_true, Bool.false_eq_true, if_false, List.filter_nil]
  have hlost : lostL (struck q [(k, k)] 0 (k * 1000 + took)) (k * 1000 + took) = [] := by
    unfold lostL
    rw [hS]
    rfl
  have hlose : losing (struck q [(k, k)] 0 (k * 1000 + took)) (k * 1000 + took) = struck q [(k, k)] 0 (k * 1000 + took) := by
    have hc : cutB (struck q [(k, k)] 0 (k * 1000 + took)) (k * 1000 + took) = false := by
      unfold cutB
      rw [hS]
      rfl
    unfold losing
    rw [hc, if_neg (by decide), hS]
    simp only [List.filter_nil]
    rw [← hS]
  have hA : Lg.answer q [(k, k)] 0 (k * 1000 + took) = struck q [(k, k)] 0 (k * 1000 + took) := by
    unfold Lg.answer
    rw [if_pos hE, if_neg (by rw [hH]; simp), hlose]
  refine ⟨hE, by unfold ansGot; rw [if_pos hE, hH]; rfl, by unfold ansLost; rw [hlost]; split <;> rfl, ?_⟩
  rw [hA]
  have hfr : ¬ (q.fronted = true ∧ k ≤ q.front) := fun c => by
    have : s.fronted = true → s.front < k := h.fr
    rw [e0] at c
    have := this c.1
    have := c.2
    show False
    simp only at this
    omega
  have hm : ∀ s2 : Led, s2.measured = s.measured → s2.smooth = s.smooth → s2.least = s.least → (measure s2 took 0).latest = took ∧ (measure s2 took 0).measured = true ∧ (measure s2 took 0).smooth = took ∧ (measure s2 took 0).least = took := by
    intro s2 c1 c2 c3
    unfold measure
    by_cases hme : s2.measured = true
    · obtain ⟨m1, m2⟩ := h.meas (c1 ▸ hme)
      rw [if_pos hme]
      simp only
      rw [c2, c3, m1, m2, Nat.min_self, Nat.add_zero, if_pos (Nat.le_refl _), Nat.sub_zero]
      exact ⟨trivial, hme, by omega, rfl⟩
    · rw [if_neg hme]
      exact ⟨rfl, rfl, rfl, rfl⟩
  obtain ⟨s2, hs2⟩ : ∃ s2 : Led, s2 = { q with now := k * 1000 + took, way := q.way.filter (fun p => !Rg.hasL [(k, k)] p.num), fronted := true, front := k } := ⟨_, rfl⟩
  have hst : struck q [(k, k)] 0 (k * 1000 + took) = { measure s2 took 0 with win := [(⟨k, z, k * 1000, true⟩ : Pk)].foldl (growW (measure s2 took 0)) (measure s2 took 0).win } := by
    unfold struck
    simp only [hH]
    have e1 : ([(⟨k, z, k * 1000, true⟩ : Pk)].getLast?.getD ⟨0, 0, 0, false⟩) = ⟨k, z, k * 1000, true⟩ := rfl
    rw [e1]
    simp only
    rw [if_neg hfr, if_pos ⟨rfl, rfl⟩, Nat.add_sub_cancel_left, ← hs2]
  obtain ⟨m1, m2, m3, m4⟩ := hm s2 (by rw [hs2, e0]) (by rw [hs2, e0]) (by rw [hs2, e0])
  have mo : ∀ s3 : Led, (measure s3 took 0).now = s3.now ∧ (measure s3 took 0).fronted = s3.fronted ∧ (measure s3 took 0).front = s3.front ∧ (measure s3 took 0).thr = s3.thr ∧ (measure s3 took 0).moments = s3.moments := by
    intro s3
    unfold measure
    split <;> exact ⟨rfl, rfl, rfl, rfl, rfl⟩
  obtain ⟨o1, o2, o3, o4, o5⟩ := mo s2
  have hw2 := (measure_way s2 took 0).2.2.2
  have hwin : [(⟨k, z, k * 1000, true⟩ : Pk)].foldl (growW (measure s2 took 0)) (measure s2 took 0).win = 12000 + (k + 1) * z := by
    show growW _ _ _ = _
    unfold growW
    rw [if_pos ⟨rfl, fun c => by rw [o5, hs2, e0] at c; have := c.1; simp only at this; rw [h.mom] at this; cases this⟩, if_pos (.inl (by rw [o4, hs2, e0]; show s.thr < 0; rw [h.thr]; decide)), hw2, hs2, e0]
    show s.win + z = _
    rw [h.win, Nat.add_mul]
    omega
  refine ⟨⟨hS, fun _ => ?_, ?_, fun _ => ?_, fun _ => ?_, ?_, ?_, ?_⟩, ?_, ?_⟩
  · rw [(struck_way q _ _ _).2.2, e0]
    show k < k + 1
    omega
  · rw [hst]
    show (measure s2 took 0).now ≤ _
    rw [o1, hs2, if_neg (by omega)]
    show k * 1000 + took ≤ (k + 1 - 1) * 1000 + took
    rw [Nat.add_sub_cancel]
    exact Nat.le_refl _
  · rw [hst]
    show (measure s2 took 0).front < _
    rw [o3, hs2]
    show k < k + 1
    omega
  · rw [hst]
    exact ⟨m3, m4⟩
  · rw [hst]
    exact hwin
  · rw [hst]
    show (measure s2 took 0).thr = -1
    rw [o4, hs2, e0]
    exact h.thr
  · rw [hst]
    show (measure s2 took 0).moments = false
    rw [o5, hs2, e0]
    exact h.mom
  · rw [hst]
    exact m1
  · rw [hst]
    exact m2
end
end Go.Proofs.Ytohoieleakieeaa.Lg
