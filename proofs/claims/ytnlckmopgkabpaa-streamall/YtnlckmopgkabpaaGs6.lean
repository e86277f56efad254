/-
  Out of PcPlain, SdPlain, SdLives, SdAll, SdCred.
-/
import Derived.Test.YtnlckmopgkabpaaGs1

/-! Pieces, plainly: what is held by its place, what is put and taken: no program in sight. -/
namespace Go.Proofs.Ytnlckmopgkabpaa
open Go

/-- Pieces as they stand. -/
structure PS where
  room : Nat
  read : Nat
  come : Nat
  known : Bool
  f : Nat → Option By
structure PS.Fine (S : PS) : Prop where
  room : S.room ≤ 1048576
  rc : S.read ≤ S.come
  come : S.come ≤ 4611686018427387903
  hi : S.come ≤ S.read + S.room
  held : ∀ x, S.f x ≠ none → S.read ≤ x ∧ x < S.come

namespace Pc
/-- How many are held of so many places from one on. -/
def cnt (f : Nat → Option By) (a : Nat) : Nat → Nat
  | 0 => 0
  | n + 1 => cnt f a n + (if (f (a + n)).isSome then 1 else 0)
theorem cnt_le (f : Nat → Option By) (a : Nat) : ∀ n, cnt f a n ≤ n
  | 0 => Nat.le_refl _
  | n + 1 => by
    have := cnt_le f a n
    unfold cnt
    split <;> omega
theorem cnt_congr {f g : Nat → Option By} {a : Nat} : ∀ {n : Nat}, (∀ x, a ≤ x → x < a + n → f x = g x) → cnt f a n = cnt g a n
  | 0, _ => rfl
  | n + 1, h => by
    unfold cnt
    rw [cnt_congr (fun x h1 h2 => h x h1 (by omega)), h (a + n) (by omega) (by omega)]
theorem cnt_set {f g : Nat → Option By} {a x : Nat} (hx : f x = none) (hg : (g x).isSome = true) (ho : ∀ y, y ≠ x → g y = f y) : ∀ {n : Nat}, a ≤ x → x < a + n → cnt g a n = cnt f a n + 1
  | 0, h1, h2 => by omega
  | n + 1, h1, h2 => by
    unfold cnt
    by_cases e : x = a + n
    · subst e
      rw [hx, hg, cnt_congr (f := g) (g := f) (fun y _ h4 => ho y (by omega))]
      simp
    · rw [cnt_set hx hg ho h1 (by omega), ho (a + n) (by omega)]
      omega
theorem cnt_head (f : Nat → Option By) (a : Nat) : ∀ n, cnt f a (n + 1) = (if (f a).isSome then 1 else 0) + cnt f (a + 1) n
  | 0 => by simp [cnt]
  | n + 1 => by
    rw [cnt, cnt_head f a n, cnt, show a + 1 + n = a + (n + 1) by omega]
    omega
theorem cnt_zero {f : Nat → Option By} {a : Nat} : ∀ {n : Nat}, (∀ x, a ≤ x → x < a + n → f x = none) → cnt f a n = 0
  | 0, _ => rfl
  | n + 1, h => by
    unfold cnt
    rw [cnt_zero (fun x h1 h2 => h x h1 (by omega)), h (a + n) (by omega) (by omega)]
    rfl
/-- What the bytes b at a place make of what is held, between two places. -/
def holdK (f : Nat → Option By) (lo k p : Nat) (b : List By) (x : Nat) : Option By :=
  if lo ≤ x ∧ x < k ∧ f x = none then some (gb b (x - p)) else f x
theorem hold_start (f : Nat → Option By) {lo k : Nat} (p : Nat) (b : List By) (h : k ≤ lo) : holdK f lo k p b = f := by
  funext x
  unfold holdK
  rw [if_neg (by omega)]
theorem hold_here {f : Nat → Option By} {lo k p : Nat} {b : List By} (h : f k ≠ none) : holdK f lo (k + 1) p b = holdK f lo k p b := by
  funext x
  unfold holdK
  by_cases e : x = k
  · subst e
    rw [if_neg (fun c => h c.2.2), if_neg (by omega)]
  · by_cases c : lo ≤ x ∧ x < k ∧ f x = none
    · rw [if_pos c, if_pos ⟨c.1, by omega, c.2.2⟩]
    · rw [if_neg c, if_neg (fun d => c ⟨d.1, by omega, d.2.2⟩)]
theorem hold_at {f : Nat → Option By} {lo k p : Nat} {b : List By} : holdK f lo k p b k = f k := by
  unfold holdK
  rw [if_neg (by omega)]
theorem hold_next {f : Nat → Option By} {lo k p : Nat} {b : List By} (h : f k = none) (hl : lo ≤ k) : holdK f lo (k + 1) p b k = some (gb b (k - p)) := by
  unfold holdK
  rw [if_pos ⟨hl, by omega, h⟩]
theorem hold_other {f : Nat → Option By} {lo k p : Nat} {b : List By} {y : Nat} (h : y ≠ k) : holdK f lo (k + 1) p b y = holdK f lo k p b y := by
  unfold holdK
  by_cases c : lo ≤ y ∧ y < k ∧ f y = none
  · rw [if_pos c, if_pos ⟨c.1, by omega, c.2.2⟩]
  · rw [if_neg c, if_neg (fun d => c ⟨d.1, by omega, d.2.2⟩)]
theorem hold_some {f : Nat → Option By} {lo k p : Nat} {b : List By} {x : Nat} (h : holdK f lo k p b x ≠ none) : f x ≠ none ∨ lo ≤ x ∧ x < k := by
  unfold holdK at h
  by_cases c : lo ≤ x ∧ x < k ∧ f x = none
  · exact .inr ⟨c.1, c.2.1⟩
  · rw [if_neg c] at h
    exact .inl h

/-- How what is put is refused. -/
def putE (S : PS) (p n : Nat) (last : Bool) : Nat :=
  if 4611686018427387903 < p ∨ 4611686018427387903 < p + n then 1
  else if S.known = true ∧ S.come < p + n ∨ last = true ∧ p + n < S.come then 8
  else if S.read + S.room < p + n then 6 else 0
/-- What becomes of what was put. -/
def putS (S : PS) (p : Nat) (b : List By) (last : Bool) : PS :=
  { S with come := max S.come (p + b.length), known := S.known || last, f := holdK S.f (max p S.read) (p + b.length) p b }
def put (S : PS) (p : Nat) (b : List By) (last : Bool) : PS := if putE S p b.length last = 0 then putS S p b last else S
theorem putE_zero {S : PS} {p n : Nat} {last : Bool} (h : putE S p n last = 0) : p + n ≤ 4611686018427387903 ∧ ¬ (S.known = true ∧ S.come < p + n) ∧ ¬ (last = true ∧ p + n < S.come) ∧ p + n ≤ S.read + S.room := by
  unfold putE at h
  split at h
  · cases h
  · split at h
    · cases h
    · split at h
      · cases h
      · rename_i h1 h2 h3
        simp only [not_or] at h1 h2
        exact ⟨by omega, h2.1, h2.2, by omega⟩
theorem put_fine {S : PS} (hS : S.Fine) {p : Nat} {b : List By} {last : Bool} (h : putE S p b.length last = 0) : (putS S p b last).Fine := by
  obtain ⟨h1, _, _, h4⟩ := putE_zero h
  obtain ⟨a1, a2, a3, a4, a5⟩ := hS
  refine ⟨a1, by show S.read ≤ max _ _; omega, by show max _ _ ≤ _; omega, by show max _ _ ≤ S.read + S.room; omega, fun x hx => ?_⟩
  show S.read ≤ x ∧ x < max S.come (p + b.length)
  rcases hold_some hx with h | ⟨h5, h6⟩
  · have := a5 x h; omega
  · omega
/-- What can be taken from a place on, so many at most. -/
def takeL (f : Nat → Option By) (r n : Nat) : List By :=
  match n with
  | 0 => []
  | n + 1 => match f r with
    | none => []
    | some x => x :: takeL f (r + 1) n
termination_by n
theorem take_zero (f : Nat → Option By) (r : Nat) : takeL f r 0 = [] := by rw [takeL]
theorem take_none {f : Nat → Option By} {r : Nat} (h : f r = none) (n : Nat) : takeL f r n = [] := by
  cases n with
  | zero => exact take_zero f r
  | succ n => rw [takeL]; simp [h]
theorem take_some {f : Nat → Option By} {r n : Nat} {x : By} (h : f r = some x) : takeL f r (n + 1) = x :: takeL f (r + 1) n := by
  rw [takeL]; simp [h]
/-- Just these lie from a place on. -/
def Lie (f : Nat → Option By) (r : Nat) (ts : List By) : Prop := ∀ j, j < ts.length → f (r + j) = some (gb ts j)
theorem lie_take (f : Nat → Option By) : ∀ (n r : Nat), Lie f r (takeL f r n)
  | 0, r => fun j hj => by rw [take_zero] at hj; exact absurd hj (Nat.not_lt_zero _)
  | n + 1, r => fun j hj => by
    cases h : f r with
    | none => rw [take_none h] at hj; exact absurd hj (Nat.not_lt_zero _)
    | some x =>
      rw [take_some h] at hj ⊢
      cases j with
      | zero => exact h
      | succ j =>
        have := lie_take f n (r + 1) j (by simpa using hj)
        rw [show r + (j + 1) = r + 1 + j by omega, this]
        rfl
theorem take_of {f : Nat → Option By} : ∀ {n r : Nat} {ts : List By}, Lie f r ts → ts.length ≤ n → (ts.length = n ∨ f (r + ts.length) = none) → takeL f r n = ts
  | 0, r, ts, _, h2, _ => by rw [take_zero]; exact (List.eq_nil_of_length_eq_zero (by omega)).symm
  | n + 1, r, [], _, _, h3 => by
    rcases h3 with h3 | h3
    · cases h3
    · exact take_none h3 _
  | n + 1, r, x :: ts, h1, h2, h3 => by
    have h0 : f r = some x := h1 0 (by simp)
    have e : takeL f (r + 1) n = ts := take_of (fun j hj => by
        have := h1 (j + 1) (by simp; omega)
        rw [show r + 1 + j = r + (j + 1) by omega, this]
        rfl) (by simp at h2; omega) (by
      rcases h3 with h3 | h3
      · exact .inl (by simpa using h3)
      · exact .inr (by rw [← h3, List.length_cons]; congr 1; omega))
    rw [take_some h0, e]
/-- Where so many were taken. -/
def mid (S : PS) (j : Nat) : PS := { S with read := S.read + j, f := fun x => if x < S.read + j then none else S.f x }
theorem mid_zero {S : PS} (hS : S.Fine) : mid S 0 = S := by
  unfold mid
  obtain ⟨room, read, come, known, f⟩ := S
  simp only [PS.mk.injEq, true_and, Nat.add_zero]
  funext x
  by_cases h : x < read
  · rw [if_pos h]
    cases hx : f x with
    | none => rfl
    | some y => have := hS.held x (show f x ≠ none by rw [hx]; simp); simp only at this; omega
  · rw [if_neg h]
theorem mid_at (S : PS) (j : Nat) : (mid S j).f (S.read + j) = S.f (S.read + j) := by
  show (if _ then _ else _) = _
  rw [if_neg (by omega)]
theorem mid_fine {S : PS} (hS : S.Fine) {j : Nat} {ts : List By} (hl : Lie S.f S.read ts) (hj : ts.length = j) : (mid S j).Fine := by
  have hx : S.read + j ≤ S.come := by
    rcases Nat.eq_zero_or_pos j with e | e
    · have := hS.rc; omega
    · have h1 := hl (j - 1) (by omega)
      have := hS.held (S.read + (j - 1)) (by rw [h1]; simp)
      omega
  refine ⟨hS.room, hx, hS.come, by show S.come ≤ S.read + j + S.room; have := hS.hi; omega, fun x h => ?_⟩
  show S.read + j ≤ x ∧ x < S.come
  have h2 : (if x < S.read + j then none else S.f x) ≠ none := h
  by_cases c : x < S.read + j
  · rw [if_pos c] at h2; exact absurd rfl h2
  · rw [if_neg c] at h2
    have := hS.held x h2
    omega
/-- What becomes of what was taken. -/
def takeS (S : PS) (n : Nat) : PS := mid S (takeL S.f S.read n).length
theorem take_fine {S : PS} (hS : S.Fine) (n : Nat) : (takeS S n).Fine := mid_fine hS (lie_take _ _ _) rfl
def ended (S : PS) : Bool := S.known && S.read == S.come
/-- How many are held. -/
def heldN (S : PS) : Nat := cnt S.f S.read S.room
theorem held_le (S : PS) : heldN S ≤ S.room := cnt_le _ _ _
theorem held_step {S : PS} (hS : S.Fine) {j : Nat} {x : By} (hx : S.f (S.read + j) = some x) : heldN (mid S (j + 1)) + 1 = heldN (mid S j) := by
  have e0 : (mid S j).f (S.read + j) = some x := (mid_at S j).trans hx
  have h1 := cnt_head (mid S j).f (S.read + j) S.room
  rw [e0] at h1
  have h2 : cnt (mid S j).f (S.read + j) (S.room + 1) = cnt (mid S j).f (S.read + j) S.room + 0 := by
    rw [cnt, show (mid S j).f (S.read + j + S.room) = none from ?_]
    · rfl
    · show (if _ then _ else _) = _
      rw [if_neg (by omega)]
      cases hy : S.f (S.read + j + S.room) with
      | none => rfl
      | some y => have := hS.held _ (show S.f (S.read + j + S.room) ≠ none by rw [hy]; simp); have := hS.hi; omega
  have h3 : cnt (mid S (j + 1)).f (S.read + j + 1) S.room = cnt (mid S j).f (S.read + j + 1) S.room := by
    refine cnt_congr fun y h4 h5 => ?_
    show (if _ then _ else _) = (if _ then _ else _)
    rw [if_neg (by omega), if_neg (by omega)]
  show cnt (mid S (j + 1)).f (S.read + (j + 1)) S.room + 1 = cnt (mid S j).f (S.read + j) S.room
  rw [show S.read + (j + 1) = S.read + j + 1 by omega, h3]
  simp at h1
  omega

/-- Of which nothing came. -/
def newS (room : Nat) : PS := ⟨room, 0, 0, false, fun _ => none⟩
theorem new_fine {room : Nat} (h : room ≤ 1048576) : (newS room).Fine := ⟨h, Nat.le_refl _, by show (0 : Nat) ≤ _; omega, by show (0 : Nat) ≤ 0 + room; omega, fun x hx => absurd rfl hx⟩
end Pc
end Go.Proofs.Ytnlckmopgkabpaa

/-! A stream's end that sends, plainly: what is written, taken, came in and was lost, byte by byte. No program in sight. -/
namespace Go.Proofs.Ytnlckmopgkabpaa.Sd
open Go

/-- A sender as it stands: of each byte (and of the end) 0: it waits, 1: it was sent, 2: it is lost, 3: it came in there. -/
structure Snd where
  id : Nat
  credit : Nat
  b : List By
  how : Nat → Nat
  fresh : Nat
  last : Bool
  fin : Nat
  reset : Bool
structure Fine (s : Snd) : Prop where
  id : s.id ≤ 4611686018427387903
  credit : s.credit ≤ 4611686018427387903
  len : s.b.length ≤ 1048576
  fr : s.fresh ≤ s.b.length
  off : ∀ i, s.fresh ≤ i → s.how i = 0
  on : ∀ i, i < s.fresh → s.how i = 1 ∨ s.how i = 2 ∨ s.how i = 3
  fin : s.fin ≤ 3
  ended : s.fin ≠ 0 → s.last = true ∧ s.fresh = s.b.length

def new (id credit : Nat) : Snd := ⟨id, credit, [], fun _ => 0, 0, false, 0, false⟩
theorem new_fine {id credit : Nat} (h1 : id ≤ 4611686018427387903) (h2 : credit ≤ 4611686018427387903) : Fine (new id credit) :=
  ⟨h1, h2, Nat.zero_le _, Nat.le_refl _, fun _ _ => rfl, fun _ hi => absurd hi (Nat.not_lt_zero _), Nat.zero_le _, fun h => absurd rfl h⟩

/-- How what is written is refused. -/
def writeE (s : Snd) (n : Nat) : Nat := if s.last = true ∨ s.reset = true then 9 else if 1048576 < s.b.length + n then 3 else 0
def write (s : Snd) (b : List By) (last : Bool) : Snd := if writeE s b.length = 0 then { s with b := s.b ++ b, last := last } else s
theorem writeE_zero {s : Snd} {n : Nat} (h : writeE s n = 0) : s.last = false ∧ s.reset = false ∧ s.b.length + n ≤ 1048576 := by
  unfold writeE at h
  split at h
  · cases h
  · rename_i c
    split at h
    · cases h
    · simp only [not_or, Bool.not_eq_true] at c
      exact ⟨c.1, c.2, by omega⟩
theorem write_fine {s : Snd} (hs : Fine s) (b : List By) (last : Bool) : Fine (write s b last) := by
  unfold write
  split
  · rename_i h
    obtain ⟨h1, h2, h3⟩ := writeE_zero h
    obtain ⟨a1, a2, a3, a4, a5, a6, a7, a8⟩ := hs
    exact ⟨a1, a2, by simpa using h3, by show s.fresh ≤ (s.b ++ b).length; simp; omega, a5, a6, a7, fun h => absurd (a8 h).1 (by rw [h1]; simp)⟩
  · exact hs

/-- The first byte that is lost, of k bytes from i on, or behind them. -/
def first (h : Nat → Nat) : Nat → Nat → Nat
  | i, 0 => i
  | i, k + 1 => if h i = 2 then i else first h (i + 1) k
theorem first_le (h : Nat → Nat) : ∀ (k i : Nat), i ≤ first h i k ∧ first h i k ≤ i + k
  | 0, i => ⟨Nat.le_refl _, Nat.le_refl _⟩
  | k + 1, i => by
    unfold first
    have := first_le h k (i + 1)
    split <;> omega
theorem first_none (h : Nat → Nat) : ∀ (k i j : Nat), i ≤ j → j < first h i k → h j ≠ 2
  | 0, i, j, h1, h2 => by unfold first at h2; omega
  | k + 1, i, j, h1, h2 => by
    unfold first at h2
    split at h2
    · omega
    · rename_i c
      by_cases e : j = i
      · rw [e]; exact c
      · exact first_none h k (i + 1) j (by omega) h2
theorem first_some (h : Nat → Nat) : ∀ (k i : Nat), first h i k < i + k → h (first h i k) = 2
  | 0, i, h1 => by unfold first at h1; omega
  | k + 1, i, h1 => by
    unfold first at h1 ⊢
    split
    · assumption
    · rename_i c
      rw [if_neg c] at h1
      exact first_some h k (i + 1) (by omega)
/-- It is the one that these two laws tell. -/
theorem first_is {h : Nat → Nat} {k i x : Nat} (h1 : i ≤ x) (h2 : x ≤ i + k) (h3 : ∀ j, i ≤ j → j < x → h j ≠ 2) (h4 : x < i + k → h x = 2) : first h i k = x := by
  have a := first_le h k i
  have b := first_none h k i
  have c := first_some h k i
  rcases Nat.lt_trichotomy (first h i k) x with e | e | e
  · exact absurd (c (by omega)) (h3 _ a.1 e)
  · exact e
  · exact absurd (h4 (by omega)) (b x h1 e)
/-- The end of a run of lost bytes, of k bytes from i on. -/
def run (h : Nat → Nat) : Nat → Nat → Nat
  | i, 0 => i
  | i, k + 1 => if h i = 2 then run h (i + 1) k else i
theorem run_le (h : Nat → Nat) : ∀ (k i : Nat), i ≤ run h i k ∧ run h i k ≤ i + k
  | 0, i => ⟨Nat.le_refl _, Nat.le_refl _⟩
  | k + 1, i => by
    unfold run
    have := run_le h k (i + 1)
    split <;> omega
theorem run_all (h : Nat → Nat) : ∀ (k i j : Nat), i ≤ j → j < run h i k → h j = 2
  | 0, i, j, h1, h2 => by unfold run at h2; omega
  | k + 1, i, j, h1, h2 => by
    unfold run at h2
    split at h2
    · rename_i c
      by_cases e : j = i
      · rw [e]; exact c
      · exact run_all h k (i + 1) j (by omega) h2
    · omega
theorem run_end (h : Nat → Nat) : ∀ (k i : Nat), run h i k < i + k → h (run h i k) ≠ 2
  | 0, i, h1 => by unfold run at h1; omega
  | k + 1, i, h1 => by
    unfold run at h1 ⊢
    split
    · rename_i c
      rw [if_pos c] at h1
      exact run_end h k (i + 1) (by omega)
    · assumption
theorem run_is {h : Nat → Nat} {k i x : Nat} (h1 : i ≤ x) (h2 : x ≤ i + k) (h3 : ∀ j, i ≤ j → j < x → h j = 2) (h4 : x < i + k → h x ≠ 2) : run h i k = x := by
  have a := run_le h k i
  have b := run_all h k i
  have c := run_end h k i
  rcases Nat.lt_trichotomy (run h i k) x with e | e | e
  · exact absurd (h3 _ a.1 e) (c (by omega))
  · exact e
  · exact absurd (b x h1 e) (h4 (by omega))
theorem run_pos {h : Nat → Nat} {k i : Nat} (hk : 0 < k) (hi : h i = 2) : i < run h i k := by
  cases k with
  | zero => omega
  | succ k =>
    unfold run
    rw [if_pos hi]
    have := run_le h k (i + 1)
    omega

/-- How many bytes may be sent that were not. -/
def more (s : Snd) (n : Int) (fr : Nat) : Nat := min (min (min (s.b.length - s.fresh) n.toNat) fr) (s.credit - s.fresh)
/-- From where, to where the bytes are that are taken next. -/
def span (s : Snd) (n : Int) (fr : Nat) : Option (Nat × Nat) :=
  if s.reset = true ∨ n < 0 then none
  else if 0 < n ∧ first s.how 0 s.fresh < s.fresh then some (first s.how 0 s.fresh, run s.how (first s.how 0 s.fresh) (min n.toNat (s.fresh - first s.how 0 s.fresh)))
  else if 0 < more s n fr then some (s.fresh, s.fresh + more s n fr)
  else if s.last = true ∧ s.fresh = s.b.length ∧ ¬ first s.how 0 s.fresh < s.fresh ∧ (s.fin = 0 ∨ s.fin = 2) then some (s.b.length, s.b.length)
  else none
/-- What becomes of a sender that told its bytes from one place to another. -/
def tell (s : Snd) (p q : Nat) : Snd :=
  { s with how := fun i => if p ≤ i ∧ i < q then 1 else s.how i, fresh := max s.fresh q, fin := if s.last = true ∧ q = s.b.length then (if s.fin = 3 then 3 else 1) else s.fin }
def take (s : Snd) (n : Int) (fr : Nat) : Snd := match span s n fr with
  | none => s
  | some (p, q) => tell s p q
def cut (b : List By) (p q : Nat) : List By := (b.drop p).take (q - p)
theorem cut_length {b : List By} {p q : Nat} (h1 : p ≤ q) (h2 : q ≤ b.length) : (cut b p q).length = q - p := by
  unfold cut
  rw [List.length_take, List.length_drop]
  omega
def finB (s : Snd) (q : Nat) : Bool := s.last && decide (q = s.b.length)

/-- What a span that is taken keeps to. -/
structure Spans (s : Snd) (n : Int) (fr : Nat) (p q : Nat) : Prop where
  live : s.reset = false
  le : p ≤ q
  top : q ≤ s.b.length
  low : p ≤ s.fresh
  most : ((q : Int) - p ≤ n)
  how : ∀ i, p ≤ i → i < q → s.how i = 0 ∨ s.how i = 2
  new : s.fresh < q → p = s.fresh ∧ q - s.fresh ≤ fr ∧ q ≤ s.credit
  one : p < q ∨ (p = q ∧ q = s.b.length ∧ s.fresh = s.b.length ∧ s.last = true ∧ (s.fin = 0 ∨ s.fin = 2))
theorem span_some {s : Snd} (hs : Fine s) {n : Int} {fr p q : Nat} (h : span s n fr = some (p, q)) : Spans s n fr p q := by
  unfold span at h
  split at h
  · cases h
  rename_i c0
  simp only [not_or, Bool.not_eq_true] at c0
  obtain ⟨c1, c2⟩ := c0
  have hl := first_le s.how s.fresh 0
  split at h
  · rename_i c3
    simp only [Option.some.injEq, Prod.mk.injEq] at h
    obtain ⟨rfl, rfl⟩ := h
    have hf := first_some s.how s.fresh 0 (by omega)
    have hr := run_le s.how (min n.toNat (s.fresh - first s.how 0 s.fresh)) (first s.how 0 s.fresh)
    have hp := run_pos (k := min n.toNat (s.fresh - first s.how 0 s.fresh)) (by omega) hf
    have := hs.fr
    exact ⟨c1, by omega, by omega, by omega, by omega, fun i h1 h2 => .inr (run_all s.how _ _ i h1 h2), fun h => by omega, .inl hp⟩
  · split at h
    · rename_i c3 c4
      simp only [Option.some.injEq, Prod.mk.injEq] at h
      obtain ⟨rfl, rfl⟩ := h
      have hm : more s n fr ≤ s.b.length - s.fresh ∧ more s n fr ≤ n.toNat ∧ more s n fr ≤ fr ∧ more s n fr ≤ s.credit - s.fresh := by unfold more; omega
      have := hs.fr
      exact ⟨c1, by omega, by omega, Nat.le_refl _, by omega, fun i h1 _ => .inl (hs.off i h1), fun _ => ⟨rfl, by omega, by omega⟩, .inl (by omega)⟩
    · split at h
      · rename_i c3 c4 c5
        simp only [Option.some.injEq, Prod.mk.injEq] at h
        obtain ⟨rfl, rfl⟩ := h
        exact ⟨c1, Nat.le_refl _, Nat.le_refl _, by omega, by omega, fun i h1 h2 => by omega, fun h => by omega, .inr ⟨rfl, rfl, c5.2.1, c5.1, c5.2.2.2⟩⟩
      · cases h
theorem tell_fine {s : Snd} (hs : Fine s) {n : Int} {fr p q : Nat} (h : Spans s n fr p q) : Fine (tell s p q) := by
  obtain ⟨a1, a2, a3, a4, a5, a6, a7, a8⟩ := hs
  obtain ⟨_, h1, h2, h3, _, h4, h5, h6⟩ := h
  refine ⟨a1, a2, a3, by show max _ _ ≤ s.b.length; omega, fun i hi => ?_, fun i hi => ?_, ?_, fun hf => ?_⟩
  · have hi : max s.fresh q ≤ i := hi
    show (if p ≤ i ∧ i < q then 1 else s.how i) = 0
    rw [if_neg (by omega)]
    exact a5 i (by omega)
  · have hi : i < max s.fresh q := hi
    show (if p ≤ i ∧ i < q then 1 else s.how i) = 1 ∨ (if p ≤ i ∧ i < q then 1 else s.how i) = 2 ∨ (if p ≤ i ∧ i < q then 1 else s.how i) = 3
    by_cases c : p ≤ i ∧ i < q
    · rw [if_pos c]; exact .inl rfl
    · rw [if_neg c]
      refine a6 i ?_
      by_cases c2 : s.fresh < q
      · have := (h5 c2).1; omega
      · omega
  · show (if _ then (if _ then 3 else 1) else s.fin) ≤ 3
    split
    · split <;> omega
    · exact a7
  · show s.last = true ∧ max s.fresh q = s.b.length
    have hf : (if s.last = true ∧ q = s.b.length then (if s.fin = 3 then 3 else 1) else s.fin) ≠ 0 := hf
    by_cases c : s.last = true ∧ q = s.b.length
    · exact ⟨c.1, by omega⟩
    · rw [if_neg c] at hf
      have := a8 hf
      exact ⟨this.1, by omega⟩
theorem take_fine {s : Snd} (hs : Fine s) (n : Int) (fr : Nat) : Fine (take s n fr) := by
  unfold take
  split
  · exact hs
  · rename_i h; exact tell_fine hs (span_some hs h)

/-- Is a frame its? -/
def Mine (s : Snd) (p : Nat) (d : List By) (fin : Bool) : Prop :=
  p ≤ s.fresh ∧ d.length ≤ s.fresh - p ∧ d = cut s.b p (p + d.length) ∧ (fin = true → s.last = true ∧ s.fin ≠ 0 ∧ p + d.length = s.b.length)
instance (s : Snd) (p : Nat) (d : List By) (fin : Bool) : Decidable (Mine s p d fin) := by unfold Mine; infer_instance
def got (s : Snd) (p n : Nat) (fin : Bool) : Snd :=
  if s.reset = true then s else { s with how := fun i => if p ≤ i ∧ i < p + n then 3 else s.how i, fin := if fin = true then 3 else s.fin }
def lost (s : Snd) (p n : Nat) (fin : Bool) : Snd :=
  if s.reset = true then s else { s with how := fun i => if (p ≤ i ∧ i < p + n) ∧ s.how i ≠ 3 then 2 else s.how i, fin := if fin = true ∧ s.fin ≠ 3 then 2 else s.fin }
theorem got_fine {s : Snd} (hs : Fine s) {p : Nat} {d : List By} {fin : Bool} (h : Mine s p d fin) : Fine (got s p d.length fin) := by
  unfold got
  split
  · exact hs
  · obtain ⟨a1, a2, a3, a4, a5, a6, a7, a8⟩ := hs
    obtain ⟨h1, h2, _, h3⟩ := h
    refine ⟨a1, a2, a3, a4, fun i hi => ?_, fun i hi => ?_, ?_, fun hf => ?_⟩
    · have hi : s.fresh ≤ i := hi
      show (if _ then 3 else s.how i) = 0
      rw [if_neg (by omega)]
      exact a5 i hi
    · show (if p ≤ i ∧ i < p + d.length then 3 else s.how i) = 1 ∨ (if p ≤ i ∧ i < p + d.length then 3 else s.how i) = 2 ∨ (if p ≤ i ∧ i < p + d.length then 3 else s.how i) = 3
      split
      · exact .inr (.inr rfl)
      · exact a6 i hi
    · show (if _ then 3 else s.fin) ≤ 3
      split <;> omega
    · show s.last = true ∧ s.fresh = s.b.length
      have hf : (if fin = true then 3 else s.fin) ≠ 0 := hf
      by_cases c : fin = true
      · exact a8 (h3 c).2.1
      · rw [if_neg c] at hf; exact a8 hf
theorem lost_fine {s : Snd} (hs : Fine s) {p : Nat} {d : List By} {fin : Bool} (h : Mine s p d fin) : Fine (lost s p d.length fin) := by
  unfold lost
  split
  · exact hs
  · obtain ⟨a1, a2, a3, a4, a5, a6, a7, a8⟩ := hs
    obtain ⟨h1, h2, _, h3⟩ := h
    refine ⟨a1, a2, a3, a4, fun i hi => ?_, fun i hi => ?_, ?_, fun hf => ?_⟩
    · have hi : s.fresh ≤ i := hi
      show (if _ then 2 else s.how i) = 0
      rw [if_neg (by omega)]
      exact a5 i hi
    · show (if (p ≤ i ∧ i < p + d.length) ∧ s.how i ≠ 3 then 2 else s.how i) = 1 ∨ (if (p ≤ i ∧ i < p + d.length) ∧ s.how i ≠ 3 then 2 else s.how i) = 2 ∨ (if (p ≤ i ∧ i < p + d.length) ∧ s.how i ≠ 3 then 2 else s.how i) = 3
      split
      · exact .inr (.inl rfl)
      · exact a6 i hi
    · show (if _ then 2 else s.fin) ≤ 3
      split <;> omega
    · show s.last = true ∧ s.fresh = s.b.length
      have hf : (if fin = true ∧ s.fin ≠ 3 then 2 else s.fin) ≠ 0 := hf
      by_cases c : fin = true ∧ s.fin ≠ 3
      · exact a8 (h3 c.1).2.1
      · rw [if_neg c] at hf; exact a8 hf
/-- The frame that was told is its. -/
theorem tell_mine {s : Snd} {n : Int} {fr p q : Nat} (h : Spans s n fr p q) : Mine (tell s p q) p (cut s.b p q) (finB s q) := by
  have hl := cut_length h.le h.top
  have := h.le
  refine ⟨by show p ≤ max s.fresh q; omega, by show _ ≤ max s.fresh q - p; omega, by show cut s.b p q = cut s.b p _; rw [hl, show p + (q - p) = q by omega], fun hf => ?_⟩
  unfold finB at hf
  simp only [Bool.and_eq_true, decide_eq_true_eq] at hf
  refine ⟨hf.1, ?_, by show p + (cut s.b p q).length = s.b.length; rw [hl]; omega⟩
  show (if s.last = true ∧ q = s.b.length then (if s.fin = 3 then 3 else 1) else s.fin) ≠ 0
  rw [if_pos hf]
  split <;> omega

def raise (s : Snd) (c : Nat) : Snd := if 4611686018427387903 < c then s else { s with credit := max s.credit c }
theorem raise_fine {s : Snd} (hs : Fine s) (c : Nat) : Fine (raise s c) := by
  unfold raise
  split
  · exact hs
  · obtain ⟨a1, a2, a3, a4, a5, a6, a7, a8⟩ := hs
    exact ⟨a1, by show max _ _ ≤ _; omega, a3, a4, a5, a6, a7, a8⟩
/-- Have all of the first k bytes come in there? -/
def allIn (h : Nat → Nat) : Nat → Bool
  | 0 => true
  | k + 1 => allIn h k && h k == 3
theorem allIn_iff (h : Nat → Nat) : ∀ k, allIn h k = true ↔ ∀ i, i < k → h i = 3
  | 0 => ⟨fun _ i hi => absurd hi (Nat.not_lt_zero _), fun _ => rfl⟩
  | k + 1 => by
    unfold allIn
    rw [Bool.and_eq_true, allIn_iff h k, beq_iff_eq]
    constructor
    · rintro ⟨h1, h2⟩ i hi
      by_cases e : i = k
      · rw [e]; exact h2
      · exact h1 i (by omega)
    · intro h1
      exact ⟨fun i hi => h1 i (by omega), h1 k (by omega)⟩
def done (s : Snd) : Bool := !s.reset && s.fin == 3 && allIn s.how s.b.length
def reset (s : Snd) : Snd := { s with reset := true }
end Go.Proofs.Ytnlckmopgkabpaa.Sd

/-! The chapter's stream, plainly. -/
namespace Go.Proofs.Ytnlckmopgkabpaa.Sd
open Go

def lvB : List By := [97, 98, 99, 100, 101, 102, 103, 104]
def lv0 : Snd := write (new 4 5) lvB true
def lv1 : Snd := tell lv0 0 3
def lv2 : Snd := tell lv1 3 5
def lv3 : Snd := lost lv2 0 3 false
def lv4 : Snd := raise lv3 20
def lv5 : Snd := tell lv4 0 3
def lv6 : Snd := tell lv5 5 8
def lv7 : Snd := got lv6 3 2 false
def lv8 : Snd := got lv7 0 3 false
def lv9 : Snd := got lv8 5 3 true
theorem lw : writeE (new 4 5) lvB.length = 0 := by decide +kernel
theorem ls0 : span lv0 3 9 = some (0, 3) := by decide +kernel
theorem ls1 : span lv1 9 9 = some (3, 5) := by decide +kernel
theorem ls2 : span lv2 9 9 = none := by decide +kernel
theorem lm2 : Mine lv2 0 [97, 98, 99] false := by decide +kernel
theorem ls4 : span lv4 9 0 = some (0, 3) := by decide +kernel
theorem ls5 : span lv5 9 9 = some (5, 8) := by decide +kernel
theorem lm6 : Mine lv6 3 [100, 101] false := by decide +kernel
theorem lm7 : Mine lv7 0 [97, 98, 99] false := by decide +kernel
theorem lm8 : Mine lv8 5 [102, 103, 104] true := by decide +kernel
theorem ld8 : done lv8 = false := by decide +kernel
theorem ld9 : done lv9 = true := by decide +kernel
theorem lc0 : cut lv0.b 0 3 = [97, 98, 99] := by decide +kernel
theorem lc1 : cut lv1.b 3 5 = [100, 101] := by decide +kernel
theorem lc4 : cut lv4.b 0 3 = [97, 98, 99] := by decide +kernel
theorem lc5 : cut lv5.b 5 8 = [102, 103, 104] := by decide +kernel
theorem lf : finB lv0 3 = false ∧ finB lv1 5 = false ∧ finB lv4 3 = false ∧ finB lv5 8 = true := by decide +kernel
end Go.Proofs.Ytnlckmopgkabpaa.Sd

/-! What is written, taken in frames, some of which are lost, and taken again, comes whole to the other end: plainly. -/
namespace Go.Proofs.Ytnlckmopgkabpaa.Sd
open Go

/-- A frame that was taken. -/
structure Fr where
  off : Nat
  data : List By
  fin : Bool
/-- A frame that a sender told once, and knows. -/
structure Good (s : Snd) (x : Fr) : Prop where
  top : x.off + x.data.length ≤ s.fresh
  is : x.data = cut s.b x.off (x.off + x.data.length)
  fin : x.fin = true → s.last = true ∧ s.fin ≠ 0 ∧ x.off + x.data.length = s.b.length
theorem Good.mine {s : Snd} {x : Fr} (h : Good s x) : Mine s x.off x.data x.fin := ⟨by have := h.top; omega, by have := h.top; omega, h.is, h.fin⟩
theorem Mine.good {s : Snd} {x : Fr} (h : Mine s x.off x.data x.fin) : Good s x := ⟨by have := h.1; have := h.2.1; omega, h.2.2.1, h.2.2.2⟩
theorem gb_cut {b : List By} {p q i : Nat} (h1 : p ≤ i) (h2 : i < q) : gb (cut b p q) (i - p) = gb b i := by
  unfold cut gb
  rw [List.getElem?_take_of_lt (by omega), List.getElem?_drop, show p + (i - p) = i by omega]

/-- How both ends stand: a sender, what came to the other end, the frames that are held back. -/
structure Both (b : List By) (s : Snd) (P : PS) (L : List Fr) : Prop where
  len : b.length ≤ 3000
  fine : Fine s
  bytes : s.b = b
  last : s.last = true
  live : s.reset = false
  credit : s.credit = 4611686018427387903
  pf : P.Fine
  room : P.room = b.length + 1
  read : P.read = 0
  val : ∀ i v, P.f i = some v → i < b.length ∧ v = gb b i
  come : P.come ≤ b.length
  known : P.known = true → P.come = b.length
  came : ∀ i, s.how i = 3 → P.f i ≠ none
  held : ∀ i, s.how i = 1 → ∃ x ∈ L, x.off ≤ i ∧ i < x.off + x.data.length
  fin3 : s.fin = 3 → P.known = true
  fin1 : s.fin = 1 → ∃ x ∈ L, x.fin = true
  good : ∀ x ∈ L, Good s x

/-- A frame that is a sender's may be put at the other end. -/
theorem put_ok {b : List By} {s : Snd} {P : PS} {L : List Fr} (h : Both b s P L) {x : Fr} (hx : Good s x) : Pc.putE P x.off x.data.length x.fin = 0 := by
  have h1 := hx.top
  have h2 := h.fine.fr
  rw [h.bytes] at h2
  have h3 := h.len
  have h4 := h.come
  have h5 := h.room
  have h6 := h.read
  unfold Pc.putE
  rw [if_neg (by omega), if_neg ?_, if_neg (by omega)]
  rintro (⟨c1, c2⟩ | ⟨c1, c2⟩)
  · have := h.known c1; omega
  · have := (hx.fin c1).2.2; rw [h.bytes] at this; omega
/-- What comes of a frame that is put. -/
theorem put_val {b : List By} {s : Snd} {P : PS} {L : List Fr} (h : Both b s P L) {x : Fr} (hx : Good s x) :
    (∀ i v, (Pc.putS P x.off x.data x.fin).f i = some v → i < b.length ∧ v = gb b i) ∧ (∀ i, x.off ≤ i → i < x.off + x.data.length → (Pc.putS P x.off x.data x.fin).f i ≠ none) ∧ (∀ i, P.f i ≠ none → (Pc.putS P x.off x.data x.fin).f i ≠ none) := by
  have h1 := hx.top
  have h2 := h.fine.fr
  rw [h.bytes] at h2
  have h6 := h.read
  have hi := hx.is
  rw [h.bytes] at hi
  refine ⟨fun i v hv => ?_, fun i h3 h4 => ?_, fun i h3 => ?_⟩
  · have hv : Pc.holdK P.f (max x.off P.read) (x.off + x.data.length) x.off x.data i = some v := hv
    unfold Pc.holdK at hv
    by_cases c : max x.off P.read ≤ i ∧ i < x.off + x.data.length ∧ P.f i = none
    · rw [if_pos c, Option.some.injEq, hi, gb_cut (by omega) c.2.1] at hv
      exact ⟨by omega, hv.symm⟩
    · rw [if_neg c] at hv
      exact h.val i v hv
  · show Pc.holdK P.f (max x.off P.read) (x.off + x.data.length) x.off x.data i ≠ none
    unfold Pc.holdK
    by_cases c : P.f i = none
    · rw [if_pos ⟨by omega, h4, c⟩]; simp
    · rw [if_neg (fun d => c d.2.2)]; exact c
  · show Pc.holdK P.f (max x.off P.read) (x.off + x.data.length) x.off x.data i ≠ none
    unfold Pc.holdK
    rw [if_neg (fun d => h3 d.2.2)]
    exact h3
theorem good_got {s : Snd} {x y : Fr} (h : Good s x) (hs : s.reset = false) : Good (got s y.off y.data.length y.fin) x := by
  unfold got
  rw [if_neg (by rw [hs]; simp)]
  exact ⟨h.top, h.is, fun c => ⟨(h.fin c).1, by show (if _ then 3 else s.fin) ≠ 0; have := (h.fin c).2.1; split <;> omega, (h.fin c).2.2⟩⟩
theorem good_lost {s : Snd} {x y : Fr} (h : Good s x) (hs : s.reset = false) : Good (lost s y.off y.data.length y.fin) x := by
  unfold lost
  rw [if_neg (by rw [hs]; simp)]
  exact ⟨h.top, h.is, fun c => ⟨(h.fin c).1, by show (if _ then 2 else s.fin) ≠ 0; have := (h.fin c).2.1; split <;> omega, (h.fin c).2.2⟩⟩
theorem good_tell {s : Snd} {x : Fr} {p q : Nat} (h : Good s x) : Good (tell s p q) x :=
  ⟨by show _ ≤ max s.fresh q; have := h.top; omega, h.is, fun c => ⟨(h.fin c).1, by
    show (if _ then (if _ then 3 else 1) else s.fin) ≠ 0
    have := (h.fin c).2.1
    split
    · split <;> omega
    · omega, (h.fin c).2.2⟩⟩
/-- A frame comes in: one that was just taken, or one that was held back. -/
theorem Both.got {b : List By} {s : Snd} {P : PS} {L M : List Fr} {x : Fr} (h : Both b s P L) (hx : Good s x) (hM : ∀ y ∈ M, y ∈ L) (hL : ∀ y ∈ L, y ∈ M ∨ y = x) :
    Both b (got s x.off x.data.length x.fin) (Pc.putS P x.off x.data x.fin) M := by
  obtain ⟨v1, v2, v3⟩ := put_val h hx
  have hp := put_ok h hx
  have hg : Sd.got s x.off x.data.length x.fin = { s with how := fun i => if x.off ≤ i ∧ i < x.off + x.data.length then 3 else s.how i, fin := if x.fin = true then 3 else s.fin } := by
    unfold Sd.got; rw [if_neg (by rw [h.live]; simp)]
  have h1 := hx.top
  have h2 := h.fine.fr
  rw [h.bytes] at h2
  have gd : ∀ y ∈ M, Good (Sd.got s x.off x.data.length x.fin) y := fun y hy => good_got (h.good y (hM y hy)) h.live
  have fn := got_fine h.fine hx.mine
  rw [hg] at gd fn ⊢
  refine ⟨h.len, fn, h.bytes, h.last, h.live, h.credit, Pc.put_fine h.pf hp, h.room, h.read, v1, ?_, fun hk => ?_, fun i hi => ?_, fun i hi => ?_, fun hf => ?_, fun hf => ?_, gd⟩
  · show max P.come (x.off + x.data.length) ≤ b.length
    have := h.come; omega
  · show max P.come (x.off + x.data.length) = b.length
    have hk : (P.known || x.fin) = true := hk
    rw [Bool.or_eq_true] at hk
    have := h.come
    rcases hk with hk | hk
    · have := h.known hk; omega
    · have := (hx.fin hk).2.2; rw [h.bytes] at this; omega
  · have hi : (if x.off ≤ i ∧ i < x.off + x.data.length then 3 else s.how i) = 3 := hi
    by_cases c : x.off ≤ i ∧ i < x.off + x.data.length
    · exact v2 i c.1 c.2
    · rw [if_neg c] at hi; exact v3 i (h.came i hi)
  · have hi : (if x.off ≤ i ∧ i < x.off + x.data.length then 3 else s.how i) = 1 := hi
    by_cases c : x.off ≤ i ∧ i < x.off + x.data.length
    · rw [if_pos c] at hi; cases hi
    · rw [if_neg c] at hi
      obtain ⟨y, hy, hc⟩ := h.held i hi
      rcases hL y hy with hy | rfl
      · exact ⟨y, hy, hc⟩
      · exact absurd hc c
  · show (P.known || x.fin) = true
    have hf : (if x.fin = true then 3 else s.fin) = 3 := hf
    by_cases c : x.fin = true
    · rw [c]; simp
    · rw [if_neg c] at hf; rw [h.fin3 hf]; simp
  · have hf : (if x.fin = true then 3 else s.fin) = 1 := hf
    by_cases c : x.fin = true
    · rw [if_pos c] at hf; cases hf
    · rw [if_neg c] at hf
      obtain ⟨y, hy, hc⟩ := h.fin1 hf
      rcases hL y hy with hy | rfl
      · exact ⟨y, hy, hc⟩
      · exact absurd hc c
/-- A frame is taken (and for now held back). -/
theorem Both.take {b : List By} {s : Snd} {P : PS} {L : List Fr} {n : Int} {fr p q : Nat} (h : Both b s P L) (hs : span s n fr = some (p, q)) :
    Both b (tell s p q) P (L ++ [⟨p, cut b p q, finB s q⟩]) := by
  have sp := span_some h.fine hs
  have hm := tell_mine sp
  rw [h.bytes] at hm
  have hl : (cut b p q).length = q - p := cut_length sp.le (by have := sp.top; rw [h.bytes] at this; exact this)
  have hle := sp.le
  refine ⟨h.len, tell_fine h.fine sp, h.bytes, h.last, h.live, h.credit, h.pf, h.room, h.read, h.val, h.come, h.known, fun i hi => ?_, fun i hi => ?_, fun hf => ?_, fun hf => ?_, fun x hx => ?_⟩
  · have hi : (if p ≤ i ∧ i < q then 1 else s.how i) = 3 := hi
    by_cases c : p ≤ i ∧ i < q
    · rw [if_pos c] at hi; cases hi
    · rw [if_neg c] at hi; exact h.came i hi
  · have hi : (if p ≤ i ∧ i < q then 1 else s.how i) = 1 := hi
    by_cases c : p ≤ i ∧ i < q
    · exact ⟨_, List.mem_append.2 (.inr (List.mem_singleton.2 rfl)), c.1, by show i < p + (cut b p q).length; omega⟩
    · rw [if_neg c] at hi
      obtain ⟨y, hy, hc⟩ := h.held i hi
      exact ⟨y, List.mem_append.2 (.inl hy), hc⟩
  · have hf : (if s.last = true ∧ q = s.b.length then (if s.fin = 3 then 3 else 1) else s.fin) = 3 := hf
    by_cases c : s.last = true ∧ q = s.b.length
    · rw [if_pos c] at hf
      by_cases c2 : s.fin = 3
      · exact h.fin3 c2
      · rw [if_neg c2] at hf; cases hf
    · rw [if_neg c] at hf; exact h.fin3 hf
  · have hf : (if s.last = true ∧ q = s.b.length then (if s.fin = 3 then 3 else 1) else s.fin) = 1 := hf
    by_cases c : s.last = true ∧ q = s.b.length
    · exact ⟨_, List.mem_append.2 (.inr (List.mem_singleton.2 rfl)), by show finB s q = true; unfold finB; simp [c.1, c.2]⟩
    · rw [if_neg c] at hf
      obtain ⟨y, hy, hc⟩ := h.fin1 hf
      exact ⟨y, List.mem_append.2 (.inl hy), hc⟩
  · rcases List.mem_append.1 hx with hx | hx
    · exact good_tell (h.good x hx)
    · rw [List.mem_singleton.1 hx]; exact hm.good
/-- A frame that was just taken is lost. -/
theorem Both.lost {b : List By} {s : Snd} {P : PS} {L : List Fr} {x : Fr} (h : Both b s P (L ++ [x])) : Both b (lost s x.off x.data.length x.fin) P L := by
  have hx : Good s x := h.good x (List.mem_append.2 (.inr (List.mem_singleton.2 rfl)))
  have hg : Sd.lost s x.off x.data.length x.fin = { s with how := fun i => if (x.off ≤ i ∧ i < x.off + x.data.length) ∧ s.how i ≠ 3 then 2 else s.how i, fin := if x.fin = true ∧ s.fin ≠ 3 then 2 else s.fin } := by
    unfold Sd.lost; rw [if_neg (by rw [h.live]; simp)]
  have gd : ∀ y ∈ L, Good (Sd.lost s x.off x.data.length x.fin) y := fun y hy => good_lost (h.good y (List.mem_append.2 (.inl hy))) h.live
  have fn := lost_fine h.fine hx.mine
  rw [hg] at gd fn ⊢
  refine ⟨h.len, fn, h.bytes, h.last, h.live, h.credit, h.pf, h.room, h.read, h.val, h.come, h.known, fun i hi => ?_, fun i hi => ?_, fun hf => ?_, fun hf => ?_, gd⟩
  · have hi : (if (x.off ≤ i ∧ i < x.off + x.data.length) ∧ s.how i ≠ 3 then 2 else s.how i) = 3 := hi
    by_cases c : (x.off ≤ i ∧ i < x.off + x.data.length) ∧ s.how i ≠ 3
    · rw [if_pos c] at hi; cases hi
    · rw [if_neg c] at hi; exact h.came i hi
  · have hi : (if (x.off ≤ i ∧ i < x.off + x.data.length) ∧ s.how i ≠ 3 then 2 else s.how i) = 1 := hi
    by_cases c : (x.off ≤ i ∧ i < x.off + x.data.length) ∧ s.how i ≠ 3
    · rw [if_pos c] at hi; cases hi
    · rw [if_neg c] at hi
      obtain ⟨y, hy, hc⟩ := h.held i hi
      rcases List.mem_append.1 hy with hy | hy
      · exact ⟨y, hy, hc⟩
      · rw [List.mem_singleton.1 hy] at hc
        exact absurd ⟨hc, by rw [hi]; decide⟩ c
  · have hf : (if x.fin = true ∧ s.fin ≠ 3 then 2 else s.fin) = 3 := hf
    by_cases c : x.fin = true ∧ s.fin ≠ 3
    · rw [if_pos c] at hf; cases hf
    · rw [if_neg c] at hf; exact h.fin3 hf
  · have hf : (if x.fin = true ∧ s.fin ≠ 3 then 2 else s.fin) = 1 := hf
    by_cases c : x.fin = true ∧ s.fin ≠ 3
    · rw [if_pos c] at hf; cases hf
    · rw [if_neg c] at hf
      obtain ⟨y, hy, hc⟩ := h.fin1 hf
      rcases List.mem_append.1 hy with hy | hy
      · exact ⟨y, hy, hc⟩
      · rw [List.mem_singleton.1 hy] at hc
        exact absurd ⟨hc, by rw [hf]; decide⟩ c

/-- How many bytes of the first k wait or are lost. -/
def open' (h : Nat → Nat) : Nat → Nat
  | 0 => 0
  | k + 1 => open' h k + (if h k = 0 ∨ h k = 2 then 1 else 0)
theorem open_le (h : Nat → Nat) : ∀ k, open' h k ≤ k
  | 0 => Nat.le_refl _
  | k + 1 => by unfold open'; have := open_le h k; split <;> omega
theorem open_mono {h g : Nat → Nat} : ∀ {k : Nat}, (∀ i, i < k → g i = 0 ∨ g i = 2 → h i = 0 ∨ h i = 2) → open' g k ≤ open' h k
  | 0, _ => Nat.le_refl _
  | k + 1, H => by
    unfold open'
    have := open_mono (k := k) (fun i hi => H i (by omega))
    have h1 := H k (by omega)
    by_cases c : g k = 0 ∨ g k = 2
    · rw [if_pos c, if_pos (h1 c)]; omega
    · rw [if_neg c]; split <;> omega
theorem open_less {h g : Nat → Nat} {x : Nat} (hx : h x = 0 ∨ h x = 2) (gx : ¬ (g x = 0 ∨ g x = 2)) : ∀ {k : Nat}, x < k → (∀ i, i < k → g i = 0 ∨ g i = 2 → h i = 0 ∨ h i = 2) → open' g k < open' h k
  | 0, h1, _ => by omega
  | k + 1, h1, H => by
    unfold open'
    have h2 := H k (by omega)
    by_cases e : x = k
    · subst e
      have := open_mono (k := x) (fun i hi => H i (by omega))
      rw [if_neg gx, if_pos hx]; omega
    · have := open_less hx gx (k := k) (by omega) (fun i hi => H i (by omega))
      by_cases c : g k = 0 ∨ g k = 2
      · rw [if_pos c, if_pos (h2 c)]; omega
      · rw [if_neg c]; split <;> omega
/-- How much is left to be taken: bytes, and the end. -/
def left (s : Snd) : Nat := open' s.how s.b.length + (if s.fin = 0 ∨ s.fin = 2 then 1 else 0)
theorem left_le (s : Snd) : left s ≤ s.b.length + 1 := by
  unfold left
  have := open_le s.how s.b.length
  split <;> omega
theorem left_tell {s : Snd} {n : Int} {fr p q : Nat} (h : Spans s n fr p q) : left (tell s p q) < left s := by
  unfold left
  show open' (fun i => if p ≤ i ∧ i < q then 1 else s.how i) s.b.length + (if (if s.last = true ∧ q = s.b.length then (if s.fin = 3 then 3 else 1) else s.fin) = 0 ∨ (if s.last = true ∧ q = s.b.length then (if s.fin = 3 then 3 else 1) else s.fin) = 2 then 1 else 0) < _
  have hm : ∀ i, i < s.b.length → (if p ≤ i ∧ i < q then 1 else s.how i) = 0 ∨ (if p ≤ i ∧ i < q then 1 else s.how i) = 2 → s.how i = 0 ∨ s.how i = 2 := by
    intro i _ hi
    by_cases c : p ≤ i ∧ i < q
    · exact h.how i c.1 c.2
    · rw [if_neg c] at hi; exact hi
  have hf : (if (if s.last = true ∧ q = s.b.length then (if s.fin = 3 then 3 else 1) else s.fin) = 0 ∨ (if s.last = true ∧ q = s.b.length then (if s.fin = 3 then 3 else 1) else s.fin) = 2 then 1 else 0) ≤ (if s.fin = 0 ∨ s.fin = 2 then 1 else 0) := by
    by_cases c : s.last = true ∧ q = s.b.length
    · rw [if_pos c]
      by_cases c2 : s.fin = 3
      · rw [if_pos c2]; simp
      · rw [if_neg c2]; simp
    · rw [if_neg c]; exact Nat.le_refl _
  rcases h.one with h1 | ⟨_, h2, h3, h4, h5⟩
  · have := open_less (h := s.how) (g := fun i => if p ≤ i ∧ i < q then 1 else s.how i) (x := p) (h.how p (Nat.le_refl _) h1) (by show ¬ ((if p ≤ p ∧ p < q then 1 else s.how p) = 0 ∨ (if p ≤ p ∧ p < q then 1 else s.how p) = 2); rw [if_pos ⟨Nat.le_refl _, h1⟩]; decide) (k := s.b.length) (by have := h.top; omega) hm
    omega
  · have := open_mono (h := s.how) (g := fun i => if p ≤ i ∧ i < q then 1 else s.how i) (k := s.b.length) hm
    rw [if_pos (show s.fin = 0 ∨ s.fin = 2 from h5), if_pos (show s.last = true ∧ q = s.b.length from ⟨h4, h2⟩), if_neg (show ¬ s.fin = 3 by omega)]
    simp
    omega
theorem left_got {s : Snd} (x : Fr) : left (got s x.off x.data.length x.fin) ≤ left s := by
  unfold got
  split
  · exact Nat.le_refl _
  · unfold left
    have := open_mono (h := s.how) (g := fun i => if x.off ≤ i ∧ i < x.off + x.data.length then 3 else s.how i) (k := s.b.length) (fun i _ hi => by
      by_cases c : x.off ≤ i ∧ i < x.off + x.data.length
      · simp only [if_pos c] at hi; omega
      · simp only [if_neg c] at hi; exact hi)
    have hf : (if (if x.fin = true then 3 else s.fin) = 0 ∨ (if x.fin = true then 3 else s.fin) = 2 then 1 else 0) ≤ (if s.fin = 0 ∨ s.fin = 2 then 1 else 0) := by
      by_cases c : x.fin = true
      · rw [if_pos c]; simp
      · rw [if_neg c]; exact Nat.le_refl _
    show open' (fun i => if x.off ≤ i ∧ i < x.off + x.data.length then 3 else s.how i) s.b.length + _ ≤ _
    exact Nat.add_le_add this hf

/-- What holds of a sender while the frames that were held back come in. -/
structure Sure (b : List By) (s : Snd) : Prop where
  all : s.fresh = b.length
  how : ∀ i, i < b.length → s.how i = 1 ∨ s.how i = 3
  fin : s.fin = 1 ∨ s.fin = 3
theorem Sure.got {b : List By} {s : Snd} (h : Sure b s) (x : Fr) : Sure b (got s x.off x.data.length x.fin) := by
  unfold Sd.got
  split
  · exact h
  · refine ⟨h.all, fun i hi => ?_, ?_⟩
    · show (if x.off ≤ i ∧ i < x.off + x.data.length then 3 else s.how i) = 1 ∨ (if x.off ≤ i ∧ i < x.off + x.data.length then 3 else s.how i) = 3
      split
      · exact .inr rfl
      · exact h.how i hi
    · show (if x.fin = true then 3 else s.fin) = 1 ∨ (if x.fin = true then 3 else s.fin) = 3
      split
      · exact .inr rfl
      · exact h.fin
/-- Nothing is left to be taken: every byte, and the end, was sent or came in. -/
theorem span_none {b : List By} {s : Snd} {P : PS} {L : List Fr} (h : Both b s P L) {n : Int} (hn : 1 ≤ n) (hs : span s n 4611686018427387903 = none) :
    Sure b s := by
  unfold span at hs
  rw [if_neg (by rw [h.live]; simp; omega)] at hs
  split at hs
  · cases hs
  rename_i c1
  split at hs
  · cases hs
  rename_i c2
  split at hs
  · cases hs
  rename_i c3
  have hl := first_le s.how s.fresh 0
  have hfr := h.fine.fr
  have hb := h.bytes
  have hlen := h.len
  rw [hb] at hfr
  have e : s.fresh = b.length := by
    unfold more at c2
    rw [h.credit, hb] at c2
    omega
  have hno : ∀ i, i < s.fresh → s.how i ≠ 2 := fun i hi => first_none s.how s.fresh 0 i (Nat.zero_le _) (by omega)
  refine ⟨e, fun i hi => ?_, ?_⟩
  · have := h.fine.on i (by omega)
    have := hno i (by omega)
    omega
  · have := h.fine.fin
    have h4 : ¬ (s.fin = 0 ∨ s.fin = 2) := fun c => c3 ⟨h.last, by rw [hb]; exact e, by omega, c⟩
    omega
/-- When all that was held back came in, too, the sender is done, and all bytes lie at the other end. -/
theorem Both.end {b : List By} {s : Snd} {P : PS} (h : Both b s P []) (hs : Sure b s) :
    done s = true ∧ P.known = true ∧ P.come = b.length ∧ Pc.takeL P.f P.read b.length = b := by
  have e3 : s.fin = 3 := by
    rcases hs.fin with c | c
    · obtain ⟨x, hx, _⟩ := h.fin1 c; cases hx
    · exact c
  have e2 : ∀ i, i < b.length → s.how i = 3 := fun i hi => by
    rcases hs.how i hi with c | c
    · obtain ⟨x, hx, _⟩ := h.held i c; cases hx
    · exact c
  refine ⟨?_, h.fin3 e3, h.known (h.fin3 e3), ?_⟩
  · unfold done
    rw [h.live, e3, h.bytes, (allIn_iff s.how b.length).2 e2]
    rfl
  · rw [h.read]
    refine Pc.take_of (fun j hj => ?_) (Nat.le_refl _) (.inl rfl)
    have := h.came j (e2 j hj)
    rw [Nat.zero_add]
    cases hv : P.f j with
    | none => exact absurd hv this
    | some v => rw [(h.val j v hv).2]
/-- How both ends begin. -/
theorem Both.start {b : List By} (h : b.length ≤ 3000) : Both b (write (new 0 4611686018427387903) b true) (Pc.newS (b.length + 1)) [] := by
  have e : writeE (new 0 4611686018427387903) b.length = 0 := by
    unfold writeE new
    rw [if_neg (by simp), if_neg (by simp; omega)]
  have hf := write_fine (new_fine (id := 0) (credit := 4611686018427387903) (by omega) (by omega)) b true
  have hw : write (new 0 4611686018427387903) b true = { new 0 4611686018427387903 with b := b, last := true } := by
    unfold write; rw [if_pos e]; rfl
  rw [hw] at hf ⊢
  exact ⟨h, hf, rfl, rfl, rfl, rfl, Pc.new_fine (by omega), rfl, rfl, fun i v hv => (by cases hv), Nat.zero_le _, fun hk => (by cases hk), fun i hi => (by cases hi), fun i hi => (by cases hi), fun hf => (by cases hf), fun hf => (by cases hf), fun x hx => (by cases hx)⟩
end Go.Proofs.Ytnlckmopgkabpaa.Sd

/-! Where nothing is lost, never is more sent than the credit, nor more at once than is told: plainly. And the chapter's stream. -/
namespace Go.Proofs.Ytnlckmopgkabpaa.Sd
open Go

/-- A sender of which nothing was lost, and whose end is not written. -/
structure Calm (b : List By) (c : Nat) (s : Snd) : Prop where
  fine : Fine s
  bytes : s.b = b
  credit : s.credit = c
  live : s.reset = false
  last : s.last = false
  none : ∀ i, s.how i ≠ 2
  le : s.fresh ≤ c
theorem calm_first {b : List By} {c : Nat} {s : Snd} (h : Calm b c s) : first s.how 0 s.fresh = s.fresh :=
  first_is (Nat.zero_le _) (by omega) (fun j _ _ => h.none j) (fun h1 => by omega)
theorem calm_span {b : List By} {c : Nat} {s : Snd} (h : Calm b c s) {n : Int} (hn : 0 ≤ n) (fr : Nat) :
    span s n fr = if 0 < more s n fr then some (s.fresh, s.fresh + more s n fr) else none := by
  unfold span
  rw [calm_first h, if_neg (by rw [h.live]; simp; omega), if_neg (by omega)]
  split
  · rfl
  · rw [if_neg (by rw [h.last]; simp)]
theorem Calm.take {b : List By} {c : Nat} {s : Snd} (h : Calm b c s) {n : Int} (hn : 0 ≤ n) (fr : Nat) :
    Calm b c (take s n fr) ∧ (take s n fr).fresh = s.fresh + more s n fr ∧ more s n fr ≤ fr ∧ s.fresh + more s n fr ≤ c ∧ s.fresh + more s n fr ≤ b.length := by
  have hm : more s n fr ≤ s.b.length - s.fresh ∧ more s n fr ≤ n.toNat ∧ more s n fr ≤ fr ∧ more s n fr ≤ s.credit - s.fresh := by unfold more; omega
  have hf := take_fine h.fine n fr
  have h1 := h.fine.fr
  have h2 := h.le
  rw [h.bytes] at hm h1
  rw [h.credit] at hm
  have he : Sd.take s n fr = if 0 < more s n fr then tell s s.fresh (s.fresh + more s n fr) else s := by
    unfold Sd.take
    rw [calm_span h hn]
    by_cases e : 0 < more s n fr
    · rw [if_pos e, if_pos e]
    · rw [if_neg e, if_neg e]
  rw [he] at hf ⊢
  by_cases e : 0 < more s n fr
  · rw [if_pos e] at hf ⊢
    refine ⟨⟨hf, h.bytes, h.credit, h.live, h.last, fun i => ?_, by show max _ _ ≤ c; omega⟩, by show max _ _ = _; omega, hm.2.2.1, by omega, by omega⟩
    show (if _ then 1 else s.how i) ≠ 2
    split
    · decide
    · exact h.none i
  · rw [if_neg e] at hf ⊢
    exact ⟨h, by omega, by omega, by omega, by omega⟩
theorem Calm.start {b : List By} (hb : b.length ≤ 5000) {id c : Nat} (hi : id ≤ 4611686018427387903) (hc : c ≤ 4611686018427387903) : Calm b c (write (new id c) b false) := by
  have e : writeE (new id c) b.length = 0 := by
    unfold writeE new
    rw [if_neg (by simp), if_neg (by simp; omega)]
  have hf := write_fine (new_fine hi hc) b false
  have hw : write (new id c) b false = { new id c with b := b, last := false } := by
    unfold write; rw [if_pos e]; rfl
  rw [hw] at hf ⊢
  exact ⟨hf, rfl, rfl, rfl, rfl, fun _ => (by show (0 : Nat) ≠ 2; decide), Nat.zero_le _⟩
end Go.Proofs.Ytnlckmopgkabpaa.Sd
