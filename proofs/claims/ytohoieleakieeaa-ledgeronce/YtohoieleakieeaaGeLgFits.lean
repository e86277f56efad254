/-
  A ledger of the program stays within bounds. No walk in sight.
-/
import Derived.Test.YtohoieleakieeaaGeLgAnsN
namespace Go.Proofs.Ytohoieleakieeaa
open Go Go.RowKit

theorem filter_two {α : Type} (f : α → Bool) : ∀ l : List α, (l.filter (fun p => !f p)).length + (l.filter f).length = l.length
  | [] => rfl
  | p :: l => by
    have h := filter_two f l
    rw [List.filter_cons, List.filter_cons]
    cases f p
    · simp only [Bool.not_false, if_true, Bool.false_eq_true, if_false, List.length_cons]; omega
    · simp only [Bool.not_true, if_true, Bool.false_eq_true, if_false, List.length_cons]; omega
theorem Fits.cut {m : ML} (h : Fits m) (f : Lg.Pk → Bool) : Fits { m with way := m.way.filter f, ask := Lg.asum (m.way.filter f) } :=
  ⟨h.next, h.asked, h.now, h.front, h.lat, h.smo, h.var, h.lea, h.winL, by have := h.winU; have := List.length_filter_le f m.way; show m.win + 1200 * (m.way.filter f).length ≤ _; omega, h.thr, h.mom, fun p hp => h.num p (List.mem_filter.1 hp).1, fun p hp => h.size p (List.mem_filter.1 hp).1, fun p hp => h.time p (List.mem_filter.1 hp).1, h.up.sublist ((List.filter_sublist).map _), rfl, Nat.le_trans (List.length_filter_le f m.way) h.len⟩
theorem Fits.shrink {m : ML} (h : Fits m) : Fits (shrinkM m) := by
  have h1 := h.winL
  have h2 := h.winU
  exact ⟨h.next, h.asked, h.now, h.front, h.lat, h.smo, h.var, h.lea, Nat.le_max_right _ _, by show max (m.win / 2) 2400 + 1200 * m.way.length ≤ _; omega, by show m.win / 2 ≤ _; omega, h.now, h.num, h.size, h.time, h.up, h.ask, h.len⟩
theorem Fits.lose {m : ML} (h : Fits m) : Fits (loseM m) := by
  unfold loseM
  split
  · exact (h.cut _).shrink
  · exact h.cut _
theorem Fits.measure {m : ML} (h : Fits m) {latest delay : Nat} (h1 : latest ≤ 1099511627775) : Fits (measM m latest delay) := by
  have ha : withA m.lea latest delay ≤ 1099511627775 := by unfold withA; split <;> omega
  have h2 := h.smo
  have h3 := h.var
  have h4 := h.lea
  unfold measM
  split
  · refine ⟨h.next, h.asked, h.now, h.front, h1, ?_, ?_, ?_, h.winL, h.winU, h.thr, h.mom, h.num, h.size, h.time, h.up, h.ask, h.len⟩
    · show withS _ _ ≤ _; unfold withS; omega
    · show withV _ _ _ ≤ _; unfold withV; omega
    · show min _ _ ≤ _; omega
  · exact ⟨h.next, h.asked, h.now, h.front, h1, h1, by show latest / 2 ≤ _; omega, h1, h.winL, h.winU, h.thr, h.mom, h.num, h.size, h.time, h.up, h.ask, h.len⟩
theorem Fits.came {m : ML} (h : Fits m) (T : List Lg.Pk) (q : Lg.Pk) (last delay : Nat) (hq : q.num ≤ 4611686018427387903) (hw : m.win + 1200 * (m.way.length + T.length) ≤ 3000000) (hT : ∀ p ∈ T, p.size ≤ 1200) : Fits (cameM m T q last delay) := by
  have hF : Fits (cameF m q) := ⟨h.next, h.asked, h.now, by show max m.front q.num ≤ _; have := h.front; omega, h.lat, h.smo, h.var, h.lea, h.winL, h.winU, h.thr, h.mom, h.num, h.size, h.time, h.up, h.ask, h.len⟩
  have hC : Fits (cameT m T q last delay) := by
    unfold cameT
    split
    · exact hF.measure (by have := h.now; omega)
    · exact hF
  have hway : (cameT m T q last delay).way = m.way := by
    unfold cameT measM cameF
    split
    · split <;> rfl
    · rfl
  have hf := growF_fold (cameT m T q last delay) T m.win h.winL hT
  have h1 := h.winL
  unfold cameM
  refine ⟨hC.next, hC.asked, hC.now, hC.front, hC.lat, hC.smo, hC.var, hC.lea, ?_, ?_, hC.thr, hC.mom, hC.num, hC.size, hC.time, hC.up, hC.ask, hC.len⟩
  · show 2400 ≤ List.foldl _ _ _; omega
  · show List.foldl _ _ _ + 1200 * (cameT m T q last delay).way.length ≤ _; rw [hway]; omega
theorem came_way (m : ML) (T : List Lg.Pk) (q : Lg.Pk) (last delay : Nat) : (cameM m T q last delay).way = m.way := by
  unfold cameM cameT measM cameF
  split
  · split <;> rfl
  · rfl
theorem Fits.sent {m : ML} (h : Fits m) {num : Nat} {size : Int} {now : Nat} (asks : Bool) (ho : sentOk m num size now) (hw : m.win + 1200 * (m.way.length + 1) ≤ 3000000) (hl : m.way.length < 2000) : Fits (sentM m num size now asks) := by
  obtain ⟨h1, h2, h3, h4, h5, h6⟩ := ho
  refine ⟨by show num + 1 ≤ _; omega, ?_, h6, h.front, h.lat, h.smo, h.var, h.lea, h.winL, ?_, h.thr, h.mom, ?_, ?_, ?_, ?_, ?_, ?_⟩
  · show (if asks then now else m.asked) ≤ _
    split
    · exact h6
    · exact h.asked
  · show m.win + 1200 * (m.way ++ [_]).length ≤ _
    rw [List.length_append, List.length_singleton]
    exact hw
  · intro p hp
    show p.num < num + 1
    rcases List.mem_append.1 hp with q | q
    · have := h.num p q; omega
    · obtain rfl : p = ⟨num, size.toNat, now, asks⟩ := by simpa using q
      show num < num + 1
      omega
  · intro p hp
    rcases List.mem_append.1 hp with q | q
    · exact h.size p q
    · obtain rfl : p = ⟨num, size.toNat, now, asks⟩ := by simpa using q
      show 1 ≤ size.toNat ∧ size.toNat ≤ 1200
      omega
  · intro p hp
    show p.time ≤ now
    rcases List.mem_append.1 hp with q | q
    · have := h.time p q; omega
    · obtain rfl : p = ⟨num, size.toNat, now, asks⟩ := by simpa using q
      exact Nat.le_refl _
  · show ((m.way ++ [_]).map _).Pairwise _
    rw [List.map_append, List.pairwise_append]
    refine ⟨h.up, List.pairwise_singleton _ _, fun a ha b hb => ?_⟩
    obtain ⟨p, hp, rfl⟩ := List.mem_map.1 ha
    obtain rfl : b = num := by simpa using hb
    have := h.num p hp
    omega
  · show (if asks then m.ask + size.toNat else m.ask) = Lg.asum (m.way ++ [_])
    rw [Lg.asum_append, show Lg.asum m.way = m.ask from h.ask.symm, Lg.asum_cons]
    cases asks
    · rfl
    · rfl
  · show (m.way ++ [_]).length ≤ _
    rw [List.length_append, List.length_singleton]
    omega
end Go.Proofs.Ytohoieleakieeaa
