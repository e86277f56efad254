/-
  Packets are gone through, and some of them taken out, in place. No program in sight.
-/
import Derived.Test.YtohoieleakieeaaGe5
namespace Go.Proofs.Ytohoieleakieeaa.Lg

/-- What was told, and what stays, of the first ones. -/
def tl (way : List Pk) (X : Pk → Bool) (i : Nat) : List Pk := (way.take i).filter X
def sl (way : List Pk) (X : Pk → Bool) (i : Nat) : List Pk := (way.take i).filter fun p => !X p
def asum (l : List Pk) : Nat := ((l.filter (·.asks)).map (·.size)).sum
def askA (way : List Pk) (X : Pk → Bool) (i : Nat) : Nat := asum (sl way X i ++ way.drop i)
theorem asum_append (a b : List Pk) : asum (a ++ b) = asum a + asum b := by unfold asum; rw [List.filter_append, List.map_append, List.sum_append]
theorem asum_cons (p : Pk) (l : List Pk) : asum (p :: l) = (if p.asks then p.size else 0) + asum l := by
  unfold asum
  rw [List.filter_cons]
  cases p.asks
  · simp
  · simp
structure Zt (way : List Pk) (X : Pk → Bool) (i : Nat) (Z : List Pk) : Prop where
  len : Z.length = way.length
  ile : i ≤ way.length
  st : Z.take (sl way X i).length = sl way X i
  dr : Z.drop i = way.drop i
theorem sl_le (way : List Pk) (X : Pk → Bool) (i : Nat) (hi : i ≤ way.length) : (sl way X i).length ≤ i := by
  have := List.length_filter_le (fun p => !X p) (way.take i)
  rw [List.length_take] at this
  unfold sl
  omega
theorem Zt.zero (way : List Pk) (X : Pk → Bool) : Zt way X 0 way := ⟨rfl, Nat.zero_le _, by simp [sl], rfl⟩
theorem Zt.get {way : List Pk} {X : Pk → Bool} {i : Nat} {Z : List Pk} (h : Zt way X i Z) : Z[i]? = way[i]? := by
  have h1 := congrArg (fun l : List Pk => l[0]?) h.dr
  simp only [List.getElem?_drop, Nat.add_zero] at h1
  exact h1
theorem sl_succ {way : List Pk} {X : Pk → Bool} {i : Nat} {p : Pk} (hp : way[i]? = some p) : sl way X (i + 1) = if X p then sl way X i else sl way X i ++ [p] := by
  unfold sl
  rw [List.take_add_one, hp, List.filter_append]
  cases hx : X p
  · simp [hx]
  · simp [hx]
theorem tl_succ {way : List Pk} {X : Pk → Bool} {i : Nat} {p : Pk} (hp : way[i]? = some p) : tl way X (i + 1) = if X p then tl way X i ++ [p] else tl way X i := by
  unfold tl
  rw [List.take_add_one, hp, List.filter_append]
  cases hx : X p
  · simp [hx]
  · simp [hx]
theorem drop_at {way : List Pk} {i : Nat} {p : Pk} (hp : way[i]? = some p) : way.drop i = p :: way.drop (i + 1) := by
  obtain ⟨h, e⟩ := List.getElem?_eq_some_iff.1 hp
  rw [List.drop_eq_getElem_cons h, e]
theorem Zt.go {way : List Pk} {X : Pk → Bool} {i : Nat} {Z : List Pk} (h : Zt way X i Z) {p : Pk} (hp : way[i]? = some p) (hx : X p = true) : Zt way X (i + 1) Z := by
  have hi := (List.getElem?_eq_some_iff.1 hp).1
  refine ⟨h.len, hi, ?_, ?_⟩
  · rw [sl_succ hp, if_pos hx]; exact h.st
  · have := congrArg (fun l : List Pk => l.drop 1) h.dr
    simp only [List.drop_drop] at this
    exact this
theorem Zt.stay {way : List Pk} {X : Pk → Bool} {i : Nat} {Z : List Pk} (h : Zt way X i Z) {p : Pk} (hp : way[i]? = some p) (hx : X p = false) : Zt way X (i + 1) (Z.set (sl way X i).length p) := by
  have hi := (List.getElem?_eq_some_iff.1 hp).1
  have hs := sl_le way X i h.ile
  have hsl : sl way X (i + 1) = sl way X i ++ [p] := by rw [sl_succ hp, if_neg (by rw [hx]; decide)]
  refine ⟨by rw [List.length_set]; exact h.len, hi, ?_, ?_⟩
  · rw [hsl, List.length_append, List.length_singleton, List.take_add_one, List.take_set_of_le (Nat.le_refl _), h.st, List.getElem?_set_self (by rw [h.len]; omega)]
    rfl
  · rw [List.drop_set_of_lt (by omega)]
    have := congrArg (fun l : List Pk => l.drop 1) h.dr
    simp only [List.drop_drop] at this
    exact this
theorem askA_stay {way : List Pk} {X : Pk → Bool} {i : Nat} {p : Pk} (hp : way[i]? = some p) (hx : X p = false) : askA way X (i + 1) = askA way X i := by
  unfold askA
  rw [sl_succ hp, if_neg (by rw [hx]; decide), drop_at hp, List.append_assoc]
  rfl
theorem askA_go {way : List Pk} {X : Pk → Bool} {i : Nat} {p : Pk} (hp : way[i]? = some p) (hx : X p = true) : askA way X i = (if p.asks then p.size else 0) + askA way X (i + 1) := by
  unfold askA
  rw [sl_succ hp, if_pos hx, drop_at hp, asum_append, asum_append, asum_cons]
  omega
theorem tl_step {way : List Pk} {X : Pk → Bool} {i : Nat} {p : Pk} (hp : way[i]? = some p) (hx : X p = true) : (way.filter X)[(tl way X i).length]? = some p := by
  have : way.filter X = tl way X i ++ (way.drop i).filter X := by unfold tl; rw [← List.filter_append, List.take_append_drop]
  rw [this, drop_at hp, List.filter_cons, if_pos hx, List.getElem?_append_right (Nat.le_refl _), Nat.sub_self]
  rfl
/-- Where none of the rest is taken out. -/
theorem rest_none {way : List Pk} {X : Pk → Bool} {i : Nat} (h : ∀ p ∈ way.drop i, X p = false) : tl way X i = way.filter X ∧ sl way X i ++ way.drop i = way.filter (fun p => !X p) := by
  unfold tl sl
  constructor
  · conv => rhs; rw [← List.take_append_drop i way, List.filter_append]
    rw [show (way.drop i).filter X = [] from List.filter_eq_nil_iff.2 (fun p hp => by rw [h p hp]; decide), List.append_nil]
  · conv => rhs; rw [← List.take_append_drop i way, List.filter_append]
    rw [show (way.drop i).filter (fun p => !X p) = way.drop i from List.filter_eq_self.2 (fun p hp => by rw [h p hp]; rfl)]
theorem rest_up {way : List Pk} (hup : (way.map (·.num)).Pairwise (· < ·)) {i e : Nat} (h : ∀ p, way[i]? = some p → e ≤ p.num) : ∀ p ∈ way.drop i, e ≤ p.num := by
  intro q hq
  obtain ⟨j, hj⟩ := List.mem_iff_getElem?.1 hq
  rw [List.getElem?_drop] at hj
  have hlt := (List.getElem?_eq_some_iff.1 hj).1
  obtain ⟨p, hp⟩ : ∃ p, way[i]? = some p := ⟨_, List.getElem?_eq_getElem (by omega)⟩
  have h1 := h p hp
  by_cases c : j = 0
  · subst c
    rw [Nat.add_zero, hp] at hj
    injection hj with hj
    subst hj
    exact h1
  · have := List.pairwise_iff_getElem.1 hup i (i + j) (by rw [List.length_map]; omega) (by rw [List.length_map]; omega) (by omega)
    rw [List.getElem_map, List.getElem_map] at this
    have e1 : way[i] = p := Option.some.inj ((List.getElem?_eq_getElem (by omega)).symm.trans hp)
    have e2 : way[i + j] = q := Option.some.inj ((List.getElem?_eq_getElem hlt).symm.trans hj)
    rw [e1, e2] at this
    omega
end Go.Proofs.Ytohoieleakieeaa.Lg
