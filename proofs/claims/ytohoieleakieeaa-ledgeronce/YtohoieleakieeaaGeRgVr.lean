/-
  Ranges in a row of the call's own.
-/
import Derived.Test.YtohoieleakieeaaGeRgMem
namespace Go.Proofs.Ytohoieleakieeaa
open Go Go.RowKit

def vr (l : List (Nat × Nat)) : List Value := l.flatMap fun r => [Value.int .u64 (r.1 : Int), .int .u64 (r.2 : Int)]
def rC2 (r : Nat × Nat) : Array Value := #[.int .u64 (r.1 : Int), .int .u64 (r.2 : Int)]
theorem vr_length (l : List (Nat × Nat)) : (vr l).length = 2 * l.length := by
  induction l with
  | nil => rfl
  | cons r l ih =>
    rw [vr, List.flatMap_cons, List.length_append, List.length_cons]
    have : (l.flatMap fun r => [Value.int .u64 (r.1 : Int), .int .u64 (r.2 : Int)]).length = 2 * l.length := ih
    rw [this]
    simp only [List.length_cons, List.length_nil]
    omega
theorem vr_cons (r : Nat × Nat) (l : List (Nat × Nat)) : vr (r :: l) = .int .u64 (r.1 : Int) :: .int .u64 (r.2 : Int) :: vr l := rfl
theorem vr_append (a b : List (Nat × Nat)) : vr (a ++ b) = vr a ++ vr b := by unfold vr; rw [List.flatMap_append]
theorem vr_at : ∀ (l : List (Nat × Nat)) (j : Nat), j < l.length → (vr l)[j * 2]? = some (.int .u64 ((gr l j).1 : Int)) ∧ (vr l)[j * 2 + 1]? = some (.int .u64 ((gr l j).2 : Int))
  | [], _, h => absurd h (Nat.not_lt_zero _)
  | r :: l, 0, _ => ⟨rfl, rfl⟩
  | r :: l, j + 1, h => by
    have h2 := vr_at l j (by simpa using h)
    have e : gr (r :: l) (j + 1) = gr l j := by simp [gr]
    rw [e, vr_cons, show (j + 1) * 2 = j * 2 + 1 + 1 by omega, show j * 2 + 1 + 1 + 1 = (j * 2 + 1) + 1 + 1 by omega, List.getElem?_cons_succ, List.getElem?_cons_succ, List.getElem?_cons_succ, List.getElem?_cons_succ]
    exact h2
theorem vr_set : ∀ (l : List (Nat × Nat)) (j : Nat) (r : Nat × Nat), j < l.length → vr (l.set j r) = ((vr l).set (j * 2) (.int .u64 (r.1 : Int))).set (j * 2 + 1) (.int .u64 (r.2 : Int))
  | [], _, _, h => absurd h (Nat.not_lt_zero _)
  | q :: l, 0, r, _ => rfl
  | q :: l, j + 1, r, h => by
    rw [List.set_cons_succ, vr_cons, vr_set l j r (by simpa using h), vr_cons, show (j + 1) * 2 = j * 2 + 1 + 1 by omega, show j * 2 + 1 + 1 + 1 = (j * 2 + 1) + 1 + 1 by omega, List.set_cons_succ, List.set_cons_succ, List.set_cons_succ, List.set_cons_succ]
/-- One cell of a row of the call's own is written. -/
theorem own_cellS {w : World} {base n g cap k z : Nat} {e : TypeId} {xs : List Value} (h : w.ownsRow base e z (.slice (some ⟨g, 0, none⟩) n cap) n xs) (u : Value) : (w.setCell ⟨g, k, none⟩ u).ownsRow base e z (.slice (some ⟨g, 0, none⟩) n cap) n (xs.set k u) := by
  obtain ⟨h1, h2⟩ := h
  refine ⟨by rw [List.length_set]; exact h1, ?_⟩
  rcases h2 with ⟨h3, _⟩ | ⟨g', c', cur, h3, h4, h5, h6, h7, h8, h9⟩
  · cases h3
  · injection h3 with e1 e2 e3
    injection e1 with e1
    injection e1 with e1
    subst e1 e3
    refine .inr ⟨g, cap, cur.setIfInBounds k u, rfl, h4, (show Row w g e cur from h5).set k u, h6, h7, by rw [Array.size_setIfInBounds]; exact h8, ?_⟩
    rw [Array.toList_setIfInBounds, List.take_set, h9]
theorem own_pair {w : World} {base n g cap j : Nat} {l : List (Nat × Nat)} (h : w.ownsRow base 42 2 (.slice (some ⟨g, 0, none⟩) n cap) n (vr l)) (r : Nat × Nat) (hj : j < n) (hl : l.length = n) : (w.setCells g (j * 2) (rC2 r).toList).ownsRow base 42 2 (.slice (some ⟨g, 0, none⟩) n cap) n (vr (l.set j r)) := by
  rw [vr_set l j r (by omega)]
  exact own_cellS (own_cellS h _) _
theorem own_range {w : World} {base n g cap : Nat} {l : List (Nat × Nat)} (h : w.ownsRow base 42 2 (.slice (some ⟨g, 0, none⟩) n cap) n (vr l)) (hl : l.length = n) (j : Nat) (hj : j < n) : w.rangeAt g (0 + j * 2) (rC2 (gr l j)).toList := by
  have hc := h.cells (g := g) rfl
  obtain ⟨a1, a2⟩ := vr_at l j (by omega)
  intro q v hv
  match q, hv with
  | 0, hv =>
    rw [← Option.some.inj hv]
    have := hc _ _ a1
    rw [add_at, Nat.zero_add] at this
    rw [Nat.zero_add, Nat.add_zero]
    exact this
  | 1, hv =>
    rw [← Option.some.inj hv]
    have := hc _ _ a2
    rw [add_at, Nat.zero_add] at this
    rw [Nat.zero_add]
    exact this
  | _ + 2, hv => simp [rC2] at hv
theorem own_there {w : World} {base n g cap : Nat} {l : List (Nat × Nat)} (h : w.ownsRow base 42 2 (.slice (some ⟨g, 0, none⟩) n cap) n (vr l)) (hl : l.length = n) (j : Nat) (hj : j < n) : w.there g (0 + j * 2) 2 := by
  have hr := own_range h hl j hj
  rcases h.2 with ⟨h3, _⟩ | ⟨g', c', cur, h3, h4, h5, h6, h7, h8, h9⟩
  · cases h3
  · injection h3 with e1 e2 e3
    injection e1 with e1
    injection e1 with e1
    subst e1 e3
    intro q hq
    refine ⟨?_, (show Row w g 42 cur from h5).frozen _⟩
    match q, hq with
    | 0, _ => rw [hr 0 _ rfl]; rfl
    | 1, _ => rw [hr 1 _ rfl]; rfl
    | _ + 2, hq => omega
theorem vr_one (l : List (Nat × Nat)) : ∀ u ∈ vr l, u.oneCell' = true := by
  intro u hu
  obtain ⟨r, _, h⟩ := List.mem_flatMap.1 hu
  simp only [List.mem_cons, List.not_mem_nil, or_false] at h
  rcases h with rfl | rfl <;> rfl
theorem Try.infoRangeV : (Try.prog.info? 42).map (fun i => (i.zero, i.size, i.bytes)) = some (some (.agg (rC2 (0, 0))), 2, 16) := by kernel_rfl
theorem range_info : ∃ i0, Try.prog.info? 42 = some i0 ∧ i0.zero = some (.agg (rC2 (0, 0))) ∧ i0.size = 2 ∧ i0.bytes = 16 := by
  have h := Try.infoRangeV
  cases hq : Try.prog.info? 42 with
  | none => rw [hq] at h; cases h
  | some i =>
    rw [hq] at h
    simp only [Option.map_some, Option.some.injEq, Prod.mk.injEq] at h
    exact ⟨i, rfl, h.1, h.2.1, h.2.2⟩
theorem own_below2 {w w' : World} {B n z : Nat} {e : TypeId} {v : Value} {xs : List Value} (h : w.ownsRow B e z v n xs) (hb : Below w.heap.size w w') : w'.ownsRow B e z v n xs :=
  h.kept (row := none) ⟨hb.os, hb.tape, hb.output, hb.size, fun k hk _ => hb.block k hk⟩ (Classical.em _)
theorem own_low2 {w : World} {B B' n z : Nat} {e : TypeId} {v : Value} {xs : List Value} (h : w.ownsRow B e z v n xs) (hB : B' ≤ B) : w.ownsRow B' e z v n xs := by
  obtain ⟨h1, h2⟩ := h
  refine ⟨h1, ?_⟩
  rcases h2 with h2 | ⟨g, c, cur, h3, h4, h5⟩
  · exact .inl h2
  · exact .inr ⟨g, c, cur, h3, Nat.le_trans hB h4, h5⟩
theorem rl_own {w : World} {base n g cap : Nat} {l : List (Nat × Nat)} (h : w.ownsRow base 42 2 (.slice (some ⟨g, 0, none⟩) n cap) n (vr l)) (hl : l.length = n) (hs : ∀ j, (gr l j).1 < 18446744073709551616 ∧ (gr l j).2 < 18446744073709551616) : RL.Ok w ⟨some ⟨g, 0, none⟩, n, cap, g, 0, l⟩ := by
  refine ⟨hl, ?_, (fun e => by cases e), fun _ => rfl, fun _ => (h.lt g rfl).2, fun j hj => ?_, hs⟩
  · rcases h.2 with ⟨h3, _⟩ | ⟨g', c', cur, h3, h4, h5, h6, _⟩
    · cases h3
    · injection h3 with e1 e2 e3
      subst e3
      exact h6
  · have := own_range h hl j hj
    exact ⟨this 0 _ rfl, this 1 _ rfl⟩
end Go.Proofs.Ytohoieleakieeaa
