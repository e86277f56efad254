/-
  Elements of 8 cells in a row of the call's own. Written by mkbkf.py.
-/
import Derived.Test.YtekgdljbninjiaaDoorGpBkRgA
namespace Go.Proofs.YtekgdljbninjiaaDoor.Bf
open Go Go.RowKit

def vo (l : List (Nat → Value)) : List Value := l.flatMap fun r => [r 0, r 1, r 2, r 3, r 4, r 5, r 6, r 7]
def oC (r : Nat → Value) : Array Value := #[r 0, r 1, r 2, r 3, r 4, r 5, r 6, r 7]
def gO (l : List (Nat → Value)) (j : Nat) : Nat → Value := l[j]?.getD (fun _ => undef)
theorem vo_length : ∀ (l : List (Nat → Value)), (vo l).length = 8 * l.length
  | [] => rfl
  | r :: l => by
    have h := vo_length l
    show ([r 0, r 1, r 2, r 3, r 4, r 5, r 6, r 7] ++ vo l).length = _
    rw [List.length_append, h, List.length_cons]
    simp only [List.length_cons, List.length_nil]
    omega
theorem vo_append (a b : List (Nat → Value)) : vo (a ++ b) = vo a ++ vo b := by unfold vo; rw [List.flatMap_append]
theorem vo_at : ∀ (l : List (Nat → Value)) (j : Nat), j < l.length → (vo l)[j * 8 + 0]? = some (gO l j 0) ∧ (vo l)[j * 8 + 1]? = some (gO l j 1) ∧ (vo l)[j * 8 + 2]? = some (gO l j 2) ∧ (vo l)[j * 8 + 3]? = some (gO l j 3) ∧ (vo l)[j * 8 + 4]? = some (gO l j 4) ∧ (vo l)[j * 8 + 5]? = some (gO l j 5) ∧ (vo l)[j * 8 + 6]? = some (gO l j 6) ∧ (vo l)[j * 8 + 7]? = some (gO l j 7)
  | [], _, h => absurd h (Nat.not_lt_zero _)
  | r :: l, 0, _ => ⟨rfl, rfl, rfl, rfl, rfl, rfl, rfl, rfl⟩
  | r :: l, j + 1, h => by
    have h2 := vo_at l j (by simpa using h)
    have e : gO (r :: l) (j + 1) = gO l j := by simp [gO]
    have s : ∀ q, (vo (r :: l))[(j + 1) * 8 + q]? = (vo l)[j * 8 + q]? := fun q => by
      rw [show (j + 1) * 8 + q = (j * 8 + q) + 8 by omega]
      rfl
    rw [e, s 0, s 1, s 2, s 3, s 4, s 5, s 6, s 7]
    exact h2
theorem vo_set : ∀ (l : List (Nat → Value)) (j : Nat) (r : Nat → Value), j < l.length → vo (l.set j r) = ((((((((vo l).set (j * 8 + 0) (r 0)).set (j * 8 + 1) (r 1)).set (j * 8 + 2) (r 2)).set (j * 8 + 3) (r 3)).set (j * 8 + 4) (r 4)).set (j * 8 + 5) (r 5)).set (j * 8 + 6) (r 6)).set (j * 8 + 7) (r 7)
  | [], _, _, h => absurd h (Nat.not_lt_zero _)
  | q :: l, 0, r, _ => rfl
  | q :: l, j + 1, r, h => by
    have ih := vo_set l j r (by simpa using h)
    have e : vo ((q :: l).set (j + 1) r) = [q 0, q 1, q 2, q 3, q 4, q 5, q 6, q 7] ++ vo (l.set j r) := rfl
    rw [e, ih, show (j + 1) * 8 + 0 = (j * 8 + 0) + 8 by omega, show (j + 1) * 8 + 1 = (j * 8 + 1) + 8 by omega, show (j + 1) * 8 + 2 = (j * 8 + 2) + 8 by omega, show (j + 1) * 8 + 3 = (j * 8 + 3) + 8 by omega, show (j + 1) * 8 + 4 = (j * 8 + 4) + 8 by omega, show (j + 1) * 8 + 5 = (j * 8 + 5) + 8 by omega, show (j + 1) * 8 + 6 = (j * 8 + 6) + 8 by omega, show (j + 1) * 8 + 7 = (j * 8 + 7) + 8 by omega]
    rfl
theorem vo_takeN : ∀ (l : List (Nat → Value)) (n : Nat), (vo l).take (n * 8) = vo (l.take n)
  | [], n => by simp [vo]
  | r :: l, 0 => by simp [vo]
  | r :: l, n + 1 => by
    have ih := vo_takeN l n
    rw [show (n + 1) * 8 = n * 8 + 8 by omega, List.take_succ_cons]
    show [r 0, r 1, r 2, r 3, r 4, r 5, r 6, r 7] ++ (vo l).take (n * 8) = [r 0, r 1, r 2, r 3, r 4, r 5, r 6, r 7] ++ vo (l.take n)
    rw [ih]
theorem own_oct {w : World} {base n g cap j : Nat} {l : List (Nat → Value)} (h : w.ownsRow base 104 8 (.slice (some ⟨g, 0, none⟩) n cap) n (vo l)) (r : Nat → Value) (hj : j < n) (hl : l.length = n) : (w.setCells g (j * 8) (oC r).toList).ownsRow base 104 8 (.slice (some ⟨g, 0, none⟩) n cap) n (vo (l.set j r)) := by
  rw [vo_set l j r (by omega)]
  exact own_cellS (own_cellS (own_cellS (own_cellS (own_cellS (own_cellS (own_cellS (own_cellS h _) _) _) _) _) _) _) _
theorem own_range8 {w : World} {base n g cap : Nat} {l : List (Nat → Value)} (h : w.ownsRow base 104 8 (.slice (some ⟨g, 0, none⟩) n cap) n (vo l)) (hl : l.length = n) (j : Nat) (hj : j < n) : w.rangeAt g (0 + j * 8) (oC (gO l j)).toList := by
  have hc := h.cells (g := g) rfl
  obtain ⟨a0, a1, a2, a3, a4, a5, a6, a7⟩ := vo_at l j (by omega)
  intro q v hv
  match q, hv with
  | 0, hv =>
    rw [← Option.some.inj hv]
    have := hc _ _ a0
    rw [add_at, Nat.zero_add] at this
    rw [Nat.zero_add]
    exact this
  | 1, hv =>
    rw [← Option.some.inj hv]
    have := hc _ _ a1
    rw [add_at, Nat.zero_add] at this
    rw [Nat.zero_add]
    exact this
  | 2, hv =>
    rw [← Option.some.inj hv]
    have := hc _ _ a2
    rw [add_at, Nat.zero_add] at this
    rw [Nat.zero_add]
    exact this
  | 3, hv =>
    rw [← Option.some.inj hv]
    have := hc _ _ a3
    rw [add_at, Nat.zero_add] at this
    rw [Nat.zero_add]
    exact this
  | 4, hv =>
    rw [← Option.some.inj hv]
    have := hc _ _ a4
    rw [add_at, Nat.zero_add] at this
    rw [Nat.zero_add]
    exact this
  | 5, hv =>
    rw [← Option.some.inj hv]
    have := hc _ _ a5
    rw [add_at, Nat.zero_add] at this
    rw [Nat.zero_add]
    exact this
  | 6, hv =>
    rw [← Option.some.inj hv]
    have := hc _ _ a6
    rw [add_at, Nat.zero_add] at this
    rw [Nat.zero_add]
    exact this
  | 7, hv =>
    rw [← Option.some.inj hv]
    have := hc _ _ a7
    rw [add_at, Nat.zero_add] at this
    rw [Nat.zero_add]
    exact this
  | _ + 8, hv => simp [oC] at hv
theorem own_there8 {w : World} {base n g cap : Nat} {l : List (Nat → Value)} (h : w.ownsRow base 104 8 (.slice (some ⟨g, 0, none⟩) n cap) n (vo l)) (hl : l.length = n) (j : Nat) (hj : j < n) : w.there g (0 + j * 8) 8 := by
  have hr := own_range8 h hl j hj
  rcases h.2 with ⟨h3, _⟩ | ⟨g', c', cur, h3, h4, h5, h6, h7, h8, h9⟩
  · cases h3
  · injection h3 with e1 e2 e3
    injection e1 with e1
    injection e1 with e1
    subst e1 e3
    intro q hq
    refine ⟨?_, (show Row w g 104 cur from h5).frozen _⟩
    match q, hq with
    | 0, _ => rw [hr 0 _ rfl]; rfl
    | 1, _ => rw [hr 1 _ rfl]; rfl
    | 2, _ => rw [hr 2 _ rfl]; rfl
    | 3, _ => rw [hr 3 _ rfl]; rfl
    | 4, _ => rw [hr 4 _ rfl]; rfl
    | 5, _ => rw [hr 5 _ rfl]; rfl
    | 6, _ => rw [hr 6 _ rfl]; rfl
    | 7, _ => rw [hr 7 _ rfl]; rfl
    | _ + 8, hq => omega
theorem cells_grown : ∀ (cs : List Value) (W : World) (g o : Nat), W.grownBy (W.setCells g o cs) (some g)
  | [], W, g, o => ⟨rfl, rfl, rfl, Nat.le_refl _, fun _ _ _ => rfl⟩
  | c :: cs, W, g, o => by
    have h := cells_grown cs (W.setCell ⟨g, o, none⟩ c) g (o + 1)
    have h0 : W.grownBy (W.setCell ⟨g, o, none⟩ c) (some g) := ⟨rfl, rfl, rfl, by simp, fun b _ hb => Below.heap_setCell _ _ _ b (fun e => hb (by rw [e]))⟩
    exact h0.trans h
end Go.Proofs.YtekgdljbninjiaaDoor.Bf
