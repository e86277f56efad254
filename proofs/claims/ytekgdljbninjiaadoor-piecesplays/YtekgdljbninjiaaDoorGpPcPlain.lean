/-
  Pieces, plainly: what is held by its place, what is put and taken: no program in sight.
-/
import Derived.Test.YtekgdljbninjiaaDoorGp1
namespace Go.Proofs.YtekgdljbninjiaaDoor
open Go

/-- Pieces as they stand. -/
structure PS where
  room : Nat
  read : Nat
  come : Nat
  known : Bool
  f : Nat → Option By
structure PS.Fine (S : PS) : Prop where
  room : S.room ≤ 1048576
  rc : S.read ≤ S.come
  come : S.come ≤ 4611686018427387903
  hi : S.come ≤ S.read + S.room
  held : ∀ x, S.f x ≠ none → S.read ≤ x ∧ x < S.come

namespace Pc
/-- How many are held of so many places from one on. -/
def cnt (f : Nat → Option By) (a : Nat) : Nat → Nat
  | 0 => 0
  | n + 1 => cnt f a n + (if (f (a + n)).isSome then 1 else 0)
theorem cnt_le (f : Nat → Option By) (a : Nat) : ∀ n, cnt f a n ≤ n
  | 0 => Nat.le_refl _
  | n + 1 => by
    have := cnt_le f a n
    unfold cnt
    split <;> omega
theorem cnt_congr {f g : Nat → Option By} {a : Nat} : ∀ {n : Nat}, (∀ x, a ≤ x → x < a + n → f x = g x) → cnt f a n = cnt g a n
  | 0, _ => rfl
  | n + 1, h => by
    unfold cnt
    rw [cnt_congr (fun x h1 h2 => h x h1 (by omega)), h (a + n) (by omega) (by omega)]
theorem cnt_set {f g : Nat → Option By} {a x : Nat} (hx : f x = none) (hg : (g x).isSome = true) (ho : ∀ y, y ≠ x → g y = f y) : ∀ {n : Nat}, a ≤ x → x < a + n → cnt g a n = cnt f a n + 1
  | 0, h1, h2 => by omega
  | n + 1, h1, h2 => by
    unfold cnt
    by_cases e : x = a + n
    · subst e
      rw [hx, hg, cnt_congr (f := g) (g := f) (fun y _ h4 => ho y (by omega))]
      simp
    · rw [cnt_set hx hg ho h1 (by omega), ho (a + n) (by omega)]
      omega
theorem cnt_head (f : Nat → Option By) (a : Nat) : ∀ n, cnt f a (n + 1) = (if (f a).isSome then 1 else 0) + cnt f (a + 1) n
  | 0 => by simp [cnt]
  | n + 1 => by
    rw [cnt, cnt_head f a n, cnt, show a + 1 + n = a + (n + 1) by omega]
    omega
theorem cnt_zero {f : Nat → Option By} {a : Nat} : ∀ {n : Nat}, (∀ x, a ≤ x → x < a + n → f x = none) → cnt f a n = 0
  | 0, _ => rfl
  | n + 1, h => by
    unfold cnt
    rw [cnt_zero (fun x h1 h2 => h x h1 (by omega)), h (a + n) (by omega) (by omega)]
    rfl
theorem cnt_more {f : Nat → Option By} {a n : Nat} : ∀ {k : Nat}, (∀ x, a + n ≤ x → x < a + n + k → f x = none) → cnt f a (n + k) = cnt f a n
  | 0, _ => rfl
  | k + 1, h => by
    rw [← Nat.add_assoc, cnt, cnt_more (fun x h1 h2 => h x h1 (by omega)), h (a + (n + k)) (by omega) (by omega)]
    rfl

/-- What the bytes b at a place make of what is held, between two places. -/
def holdK (f : Nat → Option By) (lo k p : Nat) (b : List By) (x : Nat) : Option By :=
  if lo ≤ x ∧ x < k ∧ f x = none then some (gb b (x - p)) else f x
theorem hold_start (f : Nat → Option By) {lo k : Nat} (p : Nat) (b : List By) (h : k ≤ lo) : holdK f lo k p b = f := by
  funext x
  unfold holdK
  rw [if_neg (by omega)]
theorem hold_here {f : Nat → Option By} {lo k p : Nat} {b : List By} (h : f k ≠ none) : holdK f lo (k + 1) p b = holdK f lo k p b := by
  funext x
  unfold holdK
  by_cases e : x = k
  · subst e
    rw [if_neg (fun c => h c.2.2), if_neg (by omega)]
  · by_cases c : lo ≤ x ∧ x < k ∧ f x = none
    · rw [if_pos c, if_pos ⟨c.1, by omega, c.2.2⟩]
    · rw [if_neg c, if_neg (fun d => c ⟨d.1, by omega, d.2.2⟩)]
theorem hold_at {f : Nat → Option By} {lo k p : Nat} {b : List By} : holdK f lo k p b k = f k := by
  unfold holdK
  rw [if_neg (by omega)]
theorem hold_next {f : Nat → Option By} {lo k p : Nat} {b : List By} (h : f k = none) (hl : lo ≤ k) : holdK f lo (k + 1) p b k = some (gb b (k - p)) := by
  unfold holdK
  rw [if_pos ⟨hl, by omega, h⟩]
theorem hold_other {f : Nat → Option By} {lo k p : Nat} {b : List By} {y : Nat} (h : y ≠ k) : holdK f lo (k + 1) p b y = holdK f lo k p b y := by
  unfold holdK
  by_cases c : lo ≤ y ∧ y < k ∧ f y = none
  · rw [if_pos c, if_pos ⟨c.1, by omega, c.2.2⟩]
  · rw [if_neg c, if_neg (fun d => c ⟨d.1, by omega, d.2.2⟩)]
theorem hold_some {f : Nat → Option By} {lo k p : Nat} {b : List By} {x : Nat} (h : holdK f lo k p b x ≠ none) : f x ≠ none ∨ lo ≤ x ∧ x < k := by
  unfold holdK at h
  by_cases c : lo ≤ x ∧ x < k ∧ f x = none
  · exact .inr ⟨c.1, c.2.1⟩
  · rw [if_neg c] at h
    exact .inl h

/-- How what is put is refused. -/
def putE (S : PS) (p n : Nat) (last : Bool) : Nat :=
  if 4611686018427387903 < p ∨ 4611686018427387903 < p + n then 1
  else if S.known = true ∧ S.come < p + n ∨ last = true ∧ p + n < S.come then 8
  else if S.read + S.room < p + n then 6 else 0
/-- What becomes of what was put. -/
def putS (S : PS) (p : Nat) (b : List By) (last : Bool) : PS :=
  { S with come := max S.come (p + b.length), known := S.known || last, f := holdK S.f (max p S.read) (p + b.length) p b }
def put (S : PS) (p : Nat) (b : List By) (last : Bool) : PS := if putE S p b.length last = 0 then putS S p b last else S
theorem putE_zero {S : PS} {p n : Nat} {last : Bool} (h : putE S p n last = 0) : p + n ≤ 4611686018427387903 ∧ ¬ (S.known = true ∧ S.come < p + n) ∧ ¬ (last = true ∧ p + n < S.come) ∧ p + n ≤ S.read + S.room := by
  unfold putE at h
  split at h
  · cases h
  · split at h
    · cases h
    · split at h
      · cases h
      · rename_i h1 h2 h3
        simp only [not_or] at h1 h2
        exact ⟨by omega, h2.1, h2.2, by omega⟩
theorem put_fine {S : PS} (hS : S.Fine) {p : Nat} {b : List By} {last : Bool} (h : putE S p b.length last = 0) : (putS S p b last).Fine := by
  obtain ⟨h1, _, _, h4⟩ := putE_zero h
  obtain ⟨a1, a2, a3, a4, a5⟩ := hS
  refine ⟨a1, by show S.read ≤ max _ _; omega, by show max _ _ ≤ _; omega, by show max _ _ ≤ S.read + S.room; omega, fun x hx => ?_⟩
  show S.read ≤ x ∧ x < max S.come (p + b.length)
  rcases hold_some hx with h | ⟨h5, h6⟩
  · have := a5 x h; omega
  · omega
theorem put_fine' {S : PS} (hS : S.Fine) (p : Nat) (b : List By) (last : Bool) : (put S p b last).Fine := by
  unfold put
  split
  · exact put_fine hS (by assumption)
  · exact hS

/-- What can be taken from a place on, so many at most. -/
def takeL (f : Nat → Option By) (r n : Nat) : List By :=
  match n with
  | 0 => []
  | n + 1 => match f r with
    | none => []
    | some x => x :: takeL f (r + 1) n
termination_by n
theorem take_zero (f : Nat → Option By) (r : Nat) : takeL f r 0 = [] := by rw [takeL]
theorem take_none {f : Nat → Option By} {r : Nat} (h : f r = none) (n : Nat) : takeL f r n = [] := by
  cases n with
  | zero => exact take_zero f r
  | succ n => rw [takeL]; simp [h]
theorem take_some {f : Nat → Option By} {r n : Nat} {x : By} (h : f r = some x) : takeL f r (n + 1) = x :: takeL f (r + 1) n := by
  rw [takeL]; simp [h]
theorem take_le (f : Nat → Option By) : ∀ (n r : Nat), (takeL f r n).length ≤ n
  | 0, r => by rw [take_zero]; exact Nat.le_refl _
  | n + 1, r => by
    cases h : f r with
    | none => rw [take_none h]; simp
    | some x => rw [take_some h, List.length_cons]; have := take_le f n (r + 1); omega
/-- Just these lie from a place on. -/
def Lie (f : Nat → Option By) (r : Nat) (ts : List By) : Prop := ∀ j, j < ts.length → f (r + j) = some (gb ts j)
theorem lie_take (f : Nat → Option By) : ∀ (n r : Nat), Lie f r (takeL f r n)
  | 0, r => fun j hj => by rw [take_zero] at hj; exact absurd hj (Nat.not_lt_zero _)
  | n + 1, r => fun j hj => by
    cases h : f r with
    | none => rw [take_none h] at hj; exact absurd hj (Nat.not_lt_zero _)
    | some x =>
      rw [take_some h] at hj ⊢
      cases j with
      | zero => exact h
      | succ j =>
        have := lie_take f n (r + 1) j (by simpa using hj)
        rw [show r + (j + 1) = r + 1 + j by omega, this]
        rfl
theorem take_of {f : Nat → Option By} : ∀ {n r : Nat} {ts : List By}, Lie f r ts → ts.length ≤ n → (ts.length = n ∨ f (r + ts.length) = none) → takeL f r n = ts
  | 0, r, ts, _, h2, _ => by rw [take_zero]; exact (List.eq_nil_of_length_eq_zero (by omega)).symm
  | n + 1, r, [], _, _, h3 => by
    rcases h3 with h3 | h3
    · cases h3
    · exact take_none h3 _
  | n + 1, r, x :: ts, h1, h2, h3 => by
    have h0 : f r = some x := h1 0 (by simp)
    have e : takeL f (r + 1) n = ts := take_of (fun j hj => by
        have := h1 (j + 1) (by simp; omega)
        rw [show r + 1 + j = r + (j + 1) by omega, this]
        rfl) (by simp at h2; omega) (by
      rcases h3 with h3 | h3
      · exact .inl (by simpa using h3)
      · exact .inr (by rw [← h3, List.length_cons]; congr 1; omega))
    rw [take_some h0, e]
theorem take_full {f : Nat → Option By} {n r : Nat} : (takeL f r n).length = n ∨ f (r + (takeL f r n).length) = none := by
  induction n generalizing r with
  | zero => exact .inl (by rw [take_zero]; rfl)
  | succ n ih =>
    cases h : f r with
    | none => rw [take_none h]; exact .inr h
    | some x =>
      rw [take_some h, List.length_cons]
      rcases ih (r := r + 1) with e | e
      · exact .inl (by omega)
      · exact .inr (by rw [← e]; congr 1; omega)

/-- Where so many were taken. -/
def mid (S : PS) (j : Nat) : PS := { S with read := S.read + j, f := fun x => if x < S.read + j then none else S.f x }
theorem mid_zero {S : PS} (hS : S.Fine) : mid S 0 = S := by
  unfold mid
  obtain ⟨room, read, come, known, f⟩ := S
  simp only [PS.mk.injEq, true_and, Nat.add_zero]
  funext x
  by_cases h : x < read
  · rw [if_pos h]
    cases hx : f x with
    | none => rfl
    | some y => have := hS.held x (show f x ≠ none by rw [hx]; simp); simp only at this; omega
  · rw [if_neg h]
theorem mid_at (S : PS) (j : Nat) : (mid S j).f (S.read + j) = S.f (S.read + j) := by
  show (if _ then _ else _) = _
  rw [if_neg (by omega)]
theorem mid_fine {S : PS} (hS : S.Fine) {j : Nat} {ts : List By} (hl : Lie S.f S.read ts) (hj : ts.length = j) : (mid S j).Fine := by
  have hx : S.read + j ≤ S.come := by
    rcases Nat.eq_zero_or_pos j with e | e
    · have := hS.rc; omega
    · have h1 := hl (j - 1) (by omega)
      have := hS.held (S.read + (j - 1)) (by rw [h1]; simp)
      omega
  refine ⟨hS.room, hx, hS.come, by show S.come ≤ S.read + j + S.room; have := hS.hi; omega, fun x h => ?_⟩
  show S.read + j ≤ x ∧ x < S.come
  have h2 : (if x < S.read + j then none else S.f x) ≠ none := h
  by_cases c : x < S.read + j
  · rw [if_pos c] at h2; exact absurd rfl h2
  · rw [if_neg c] at h2
    have := hS.held x h2
    omega
/-- What becomes of what was taken. -/
def takeS (S : PS) (n : Nat) : PS := mid S (takeL S.f S.read n).length
theorem take_fine {S : PS} (hS : S.Fine) (n : Nat) : (takeS S n).Fine := mid_fine hS (lie_take _ _ _) rfl
def ended (S : PS) : Bool := S.known && S.read == S.come
/-- How many are held. -/
def heldN (S : PS) : Nat := cnt S.f S.read S.room
theorem held_le (S : PS) : heldN S ≤ S.room := cnt_le _ _ _
theorem held_step {S : PS} (hS : S.Fine) {j : Nat} {x : By} (hx : S.f (S.read + j) = some x) : heldN (mid S (j + 1)) + 1 = heldN (mid S j) := by
  have e0 : (mid S j).f (S.read + j) = some x := (mid_at S j).trans hx
  have h1 := cnt_head (mid S j).f (S.read + j) S.room
  rw [e0] at h1
  have h2 : cnt (mid S j).f (S.read + j) (S.room + 1) = cnt (mid S j).f (S.read + j) S.room + 0 := by
    rw [cnt, show (mid S j).f (S.read + j + S.room) = none from ?_]
    · rfl
    · show (if _ then _ else _) = _
      rw [if_neg (by omega)]
      cases hy : S.f (S.read + j + S.room) with
      | none => rfl
      | some y => have := hS.held _ (show S.f (S.read + j + S.room) ≠ none by rw [hy]; simp); have := hS.hi; omega
  have h3 : cnt (mid S (j + 1)).f (S.read + j + 1) S.room = cnt (mid S j).f (S.read + j + 1) S.room := by
    refine cnt_congr fun y h4 h5 => ?_
    show (if _ then _ else _) = (if _ then _ else _)
    rw [if_neg (by omega), if_neg (by omega)]
  show cnt (mid S (j + 1)).f (S.read + (j + 1)) S.room + 1 = cnt (mid S j).f (S.read + j) S.room
  rw [show S.read + (j + 1) = S.read + j + 1 by omega, h3]
  simp at h1
  omega

/-- Of which nothing came. -/
def newS (room : Nat) : PS := ⟨room, 0, 0, false, fun _ => none⟩
theorem new_fine {room : Nat} (h : room ≤ 1048576) : (newS room).Fine := ⟨h, Nat.le_refl _, by show (0 : Nat) ≤ _; omega, by show (0 : Nat) ≤ 0 + room; omega, fun x hx => absurd rfl hx⟩
end Pc
end Go.Proofs.YtekgdljbninjiaaDoor
