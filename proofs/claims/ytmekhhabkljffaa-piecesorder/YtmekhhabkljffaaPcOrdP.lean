/-
  Pieces of a stream, in whatever order: what is taken is a beginning of it. No program in sight.
-/
import Derived.Test.YtmekhhabkljffaaPcPlain
namespace Go.Proofs.Ytmekhhabkljffaa
open Go
namespace Pc
/-- Pieces of the stream b of which just some places came; and did its end? -/
structure Ord (S : PS) (b : List By) (C : Nat → Bool) (E : Bool) : Prop where
  fine : S.Fine
  room : S.room = 3000
  known : S.known = E
  hi : S.come ≤ b.length
  fin : E = true → S.come = b.length
  rd : S.read ≤ b.length
  taken : ∀ x, x < S.read → C x = true
  f : ∀ x, S.f x = if S.read ≤ x ∧ x < b.length ∧ C x = true then some (gb b x) else none
theorem Ord.new (b : List By) : Ord (newS 3000) b (fun _ => false) false :=
  ⟨new_fine (by decide), rfl, rfl, Nat.zero_le _, (fun h => by cases h), Nat.zero_le _, fun x hx => absurd hx (Nat.not_lt_zero _), fun x => by rw [if_neg (by simp)]; rfl⟩
theorem Ord.E0 {S : PS} {b : List By} {C : Nat → Bool} {E : Bool} (h : Ord S b C E) (hb : b.length ≤ 3000) {p n : Nat} (hp : p + n ≤ b.length) {last : Bool} (hl : last = true → p + n = b.length) : putE S p n last = 0 := by
  unfold putE
  rw [if_neg (by omega), if_neg, if_neg (by rw [h.room]; omega)]
  rintro (⟨a, c⟩ | ⟨a, c⟩)
  · rw [h.known] at a; have := h.fin a; omega
  · have := hl a; have := h.hi; omega
def more (C : Nat → Bool) (p q : Nat) (x : Nat) : Bool := C x || (decide (p ≤ x) && decide (x < q))
theorem more_start (C : Nat → Bool) (p : Nat) : more C p p = C := by
  funext x
  unfold more
  by_cases h : p ≤ x
  · rw [decide_eq_false (show ¬ x < p by omega)]; simp
  · rw [decide_eq_false h]; simp
theorem more_next (C : Nat → Bool) {p q : Nat} (h : p ≤ q) (x : Nat) : more C p (q + 1) x = if x = q then true else more C p q x := by
  unfold more
  by_cases e : x = q
  · subst e; rw [if_pos rfl, decide_eq_true h, decide_eq_true (show x < x + 1 by omega)]; simp
  · rw [if_neg e]
    by_cases c : x < q
    · rw [decide_eq_true c, decide_eq_true (show x < q + 1 by omega)]
    · rw [decide_eq_false c, decide_eq_false (show ¬ x < q + 1 by omega)]
theorem Ord.put {S : PS} {b c : List By} {C : Nat → Bool} {E : Bool} (h : Ord S b C E) (hb : b.length ≤ 3000) {p n : Nat} (hp : p + n ≤ b.length) {last : Bool} (hl : last = true ↔ p + n = b.length) (hc : c.length = n) (hcb : ∀ j, j < n → gb c j = gb b (p + j)) :
    Ord (Pc.put S p c last) b (more C p (p + n)) (E || last) := by
  have hE : putE S p c.length last = 0 := by rw [hc]; exact h.E0 hb hp hl.1
  have e : Pc.put S p c last = putS S p c last := if_pos hE
  rw [e]
  have hf := put_fine h.fine hE
  refine ⟨hf, h.room, by show (S.known || last) = _; rw [h.known], by show max S.come (p + c.length) ≤ _; rw [hc]; have := h.hi; omega, fun q => ?_, h.rd, fun x hx => ?_, fun x => ?_⟩
  · show max S.come (p + c.length) = _
    rw [hc]
    have := h.hi
    rcases Bool.or_eq_true _ _ ▸ q with q | q
    · have := h.fin q; omega
    · have := hl.1 q; omega
  · unfold more; rw [h.taken x hx]; rfl
  · show holdK S.f (max p S.read) (p + c.length) p c x = if S.read ≤ x ∧ x < b.length ∧ more C p (p + n) x = true then some (gb b x) else none
    unfold holdK
    rw [hc, h.f]
    by_cases c1 : S.read ≤ x ∧ x < b.length ∧ C x = true
    · rw [if_pos c1, if_neg (by simp), if_pos ⟨c1.1, c1.2.1, by unfold more; rw [c1.2.2]; rfl⟩]
    · rw [if_neg c1]
      by_cases c2 : p ≤ x ∧ x < p + n ∧ S.read ≤ x
      · rw [if_pos ⟨by omega, c2.2.1, rfl⟩, if_pos ⟨c2.2.2, by omega, by unfold more; rw [decide_eq_true c2.1, decide_eq_true c2.2.1]; simp⟩, hcb (x - p) (by omega), show p + (x - p) = x by omega]
      · rw [if_neg (by omega), if_neg]
        rintro ⟨d1, d2, d3⟩
        unfold more at d3
        by_cases d4 : C x = true
        · exact c1 ⟨d1, d2, d4⟩
        · rw [Bool.not_eq_true] at d4
          rw [d4] at d3
          simp at d3
          omega
theorem Ord.lie {S : PS} {b : List By} {C : Nat → Bool} {E : Bool} (h : Ord S b C E) (k : Nat) : S.read + (takeL S.f S.read k).length ≤ b.length ∧ takeL S.f S.read k = (b.take (S.read + (takeL S.f S.read k).length)).drop S.read ∧ ∀ x, x < S.read + (takeL S.f S.read k).length → C x = true := by
  have hl := lie_take S.f k S.read
  generalize takeL S.f S.read k = L at *
  have hat : ∀ j, j < L.length → S.read + j < b.length ∧ C (S.read + j) = true ∧ gb L j = gb b (S.read + j) := fun j hj => by
    have := hl j hj
    rw [h.f] at this
    by_cases c : S.read ≤ S.read + j ∧ S.read + j < b.length ∧ C (S.read + j) = true
    · rw [if_pos c] at this
      exact ⟨c.2.1, c.2.2, (Option.some.inj this).symm⟩
    · rw [if_neg c] at this; cases this
  have h1 : S.read + L.length ≤ b.length := by
    rcases Nat.eq_zero_or_pos L.length with e | e
    · have := h.rd; omega
    · have := (hat (L.length - 1) (by omega)).1; omega
  refine ⟨h1, ?_, fun x hx => ?_⟩
  · apply List.ext_getElem?
    intro j
    rw [List.getElem?_drop, List.getElem?_take]
    by_cases hj : j < L.length
    · rw [if_pos (by omega)]
      have := (hat j hj).2.2
      unfold gb at this
      rw [List.getElem?_eq_getElem hj, List.getElem?_eq_getElem (show S.read + j < b.length by omega)] at this ⊢
      exact congrArg some this
    · rw [if_neg (by omega), List.getElem?_eq_none (by omega)]
  · rcases Nat.lt_or_ge x S.read with c | c
    · exact h.taken x c
    · have := (hat (x - S.read) (by omega)).2.1
      rw [show S.read + (x - S.read) = x by omega] at this
      exact this
theorem Ord.take {S : PS} {b : List By} {C : Nat → Bool} {E : Bool} (h : Ord S b C E) (k : Nat) : Ord (takeS S k) b C E ∧ b.take S.read ++ takeL S.f S.read k = b.take (takeS S k).read ∧ ended (takeS S k) = (E && (takeS S k).read == b.length) ∧ (takeS S k).read = S.read + (takeL S.f S.read k).length := by
  obtain ⟨h1, h2, h3⟩ := h.lie k
  have hr : (takeS S k).read = S.read + (takeL S.f S.read k).length := rfl
  refine ⟨⟨take_fine h.fine k, h.room, h.known, h.hi, h.fin, by rw [hr]; exact h1, fun x hx => h3 x (by rw [hr] at hx; exact hx), fun x => ?_⟩, ?_, ?_, hr⟩
  · have e : (takeS S k).f x = if x < S.read + (takeL S.f S.read k).length then none else S.f x := rfl
    rw [e, hr]
    by_cases c : x < S.read + (takeL S.f S.read k).length
    · rw [if_pos c, if_neg (by omega)]
    · rw [if_neg c, h.f]
      by_cases d : x < b.length ∧ C x = true
      · rw [if_pos ⟨by omega, d⟩, if_pos ⟨by omega, d⟩]
      · rw [if_neg (fun q => d q.2), if_neg (fun q => d q.2)]
  · rw [hr]
    have e3 : (b.take (S.read + (takeL S.f S.read k).length)).take S.read = b.take S.read := by rw [List.take_take, Nat.min_eq_left (by omega)]
    have e4 := List.take_append_drop S.read (b.take (S.read + (takeL S.f S.read k).length))
    rw [e3, ← h2] at e4
    exact e4
  · unfold ended
    show (S.known && (takeS S k).read == S.come) = _
    rw [h.known]
    cases E with
    | false => rfl
    | true => rw [h.fin rfl]
/-- How far all came. -/
theorem Ord.far {S : PS} {b : List By} {C : Nat → Bool} {E : Bool} (h : Ord S b C E) (hb : b.length ≤ 3000) {n : Nat} (h1 : n ≤ b.length) (h2 : ∀ x, x < n → C x = true) (h3 : n = b.length ∨ C n = false) : (takeS S 3000).read = n := by
  obtain ⟨a1, _, a3, a4⟩ := h.take 3000
  have b1 := a1.rd
  have b2 := a1.taken
  have hfull := take_full (f := S.f) (n := 3000) (r := S.read)
  rcases Nat.lt_trichotomy (takeS S 3000).read n with c | c | c
  · exfalso
    rcases hfull with e | e
    · have := h.rd; omega
    · rw [← a4, h.f, if_pos ⟨by omega, by omega, h2 _ c⟩] at e
      cases e
  · exact c
  · exfalso
    rcases h3 with e | e
    · omega
    · have := b2 n c
      rw [e] at this
      cases this
end Pc
end Go.Proofs.Ytmekhhabkljffaa
