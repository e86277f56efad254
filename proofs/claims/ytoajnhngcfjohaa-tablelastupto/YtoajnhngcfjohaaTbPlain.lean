/-
  Tables of fields, plainly.
-/
import Derived.WalkKit
namespace Go.Proofs.Ytoajnhngcfjohaa

namespace Tb
/-- A field: its name, its value. -/
abbrev Fd := ByteArray × ByteArray
def sz (f : Fd) : Nat := f.1.size + f.2.size + 32
def size : List Fd → Nat
  | [] => 0
  | f :: l => sz f + size l
/-- How many of the eldest go, so that there is room for n more. -/
def gone (room n : Nat) : List Fd → Nat
  | [] => 0
  | f :: l => if size (f :: l) + n ≤ room then 0 else gone room n l + 1
structure Tab where
  room : Nat
  went : Nat
  l : List Fd
/-- The eldest go until there is room for n more. -/
def Tab.less (t : Tab) (n : Nat) : Tab := ⟨t.room, t.went + gone t.room n t.l, t.l.drop (gone t.room n t.l)⟩
def Tab.addE (t : Tab) (f : Fd) : Nat := if t.room < sz f then 6 else 0
def Tab.add (t : Tab) (f : Fd) : Tab := if t.room < sz f then t else let u := t.less (sz f); ⟨u.room, u.went, u.l ++ [f]⟩
def Tab.roomE (n : Int) : Nat := if n < 0 ∨ 4096 < n then 1 else 0
def Tab.setRoom (t : Tab) (n : Int) : Tab := if n < 0 ∨ 4096 < n then t else (⟨n.toNat, t.went, t.l⟩ : Tab).less 0
def Tab.came (t : Tab) : Nat := t.went + t.l.length
def Tab.get (t : Tab) (n : Nat) : Option Fd := if n < t.went then none else t.l[n - t.went]?
theorem size_append : ∀ (a b : List Fd), size (a ++ b) = size a + size b
  | [], b => by simp [size]
  | f :: a, b => by simp only [List.cons_append, size, size_append a b]; omega
theorem size_drop_le : ∀ (l : List Fd) (k : Nat), size (l.drop k) ≤ size l
  | [], k => by simp [size]
  | f :: l, 0 => Nat.le_refl _
  | f :: l, k + 1 => by
    have := size_drop_le l k
    simp only [List.drop_succ_cons, size]
    omega
theorem size_length : ∀ (l : List Fd), 32 * l.length ≤ size l
  | [] => by simp [size]
  | f :: l => by
    have := size_length l
    simp only [List.length_cons, size, sz]
    omega
theorem gone_le (room n : Nat) : ∀ (l : List Fd), gone room n l ≤ l.length
  | [] => Nat.le_refl _
  | f :: l => by
    have := gone_le room n l
    simp only [gone, List.length_cons]
    split <;> omega
/-- What is left has room. -/
theorem gone_room (room n : Nat) (hn : n ≤ room) : ∀ (l : List Fd), size (l.drop (gone room n l)) + n ≤ room
  | [] => by simpa [size] using hn
  | f :: l => by
    simp only [gone]
    split
    · assumption
    · exact gone_room room n hn l
/-- As long as fewer went there is no room. -/
theorem gone_need (room n : Nat) : ∀ (l : List Fd) (k : Nat), k < gone room n l → room < size (l.drop k) + n
  | [], k, h => absurd h (Nat.not_lt_zero _)
  | f :: l, k, h => by
    simp only [gone] at h
    split at h
    · exact absurd h (Nat.not_lt_zero _)
    · rename_i hc
      match k with
      | 0 => simp only [List.drop_zero]; omega
      | k + 1 => exact gone_need room n l k (by omega)
/-- The least number that leaves room is how many go. -/
theorem gone_is (room n : Nat) (l : List Fd) (k : Nat) (hk : k ≤ l.length) (h1 : ∀ j, j < k → room < size (l.drop j) + n) (h2 : k = l.length ∨ size (l.drop k) + n ≤ room) : gone room n l = k := by
  rcases Nat.lt_trichotomy (gone room n l) k with h | h | h
  · exfalso
    have a := h1 _ h
    rcases Nat.lt_or_ge room n with c | c
    · have : ∀ (l : List Fd), room < n → gone room n l = l.length := by
        intro l hc
        induction l with
        | nil => rfl
        | cons f l ih => simp only [gone, List.length_cons]; rw [if_neg (by omega), ih]
      have := this l c
      omega
    · have := gone_room room n c l
      omega
  · exact h
  · exfalso
    rcases h2 with h2 | h2
    · have := gone_le room n l; omega
    · have := gone_need room n l k h; omega
theorem less_room (t : Tab) (n : Nat) (hn : n ≤ t.room) : size (t.less n).l + n ≤ (t.less n).room := gone_room _ _ hn _
theorem less_came (t : Tab) (n : Nat) : (t.less n).came = t.came := by
  have := gone_le t.room n t.l
  simp only [Tab.less, Tab.came, List.length_drop]
  omega
theorem less_get (t : Tab) (n j : Nat) (h : (t.less n).went ≤ j) : (t.less n).get j = t.get j := by
  have hw : (t.less n).went = t.went + gone t.room n t.l := rfl
  unfold Tab.get
  rw [if_neg (by omega), if_neg (by omega)]
  simp only [Tab.less, List.getElem?_drop]
  congr 1
  simp only [Tab.less] at h
  omega
/-- A table's own rule: what is there has room, and is small. -/
structure Tab.Fine (t : Tab) : Prop where
  room : t.room ≤ 4096
  size : size t.l ≤ t.room
theorem Tab.Fine.length {t : Tab} (h : t.Fine) : t.l.length ≤ 128 := by
  have := size_length t.l
  have := h.room
  have := h.size
  omega
theorem Tab.Fine.add {t : Tab} (h : t.Fine) (f : Fd) : (t.add f).Fine := by
  unfold Tab.add
  split
  · exact h
  · rename_i hc
    refine ⟨h.room, ?_⟩
    have := less_room t (sz f) (by omega)
    simp only [size_append]
    exact this
theorem Tab.Fine.setRoom {t : Tab} (h : t.Fine) (n : Int) : (t.setRoom n).Fine := by
  unfold Tab.setRoom
  split
  · exact h
  · rename_i hc
    have hn : n.toNat ≤ 4096 := by omega
    exact ⟨hn, less_room (⟨n.toNat, t.went, t.l⟩ : Tab) 0 (Nat.zero_le _)⟩
/-- What the list of all that came tells of a table: those that are there are its last ones. -/
structure Tab.Of (t : Tab) (L : List Fd) : Prop where
  le : t.went ≤ L.length
  l : t.l = L.drop t.went
theorem Tab.Of.came {t : Tab} {L : List Fd} (h : t.Of L) : t.came = L.length := by
  have := h.le
  unfold Tab.came
  rw [h.l, List.length_drop]
  omega
theorem Tab.Of.get {t : Tab} {L : List Fd} (h : t.Of L) (n : Nat) : t.get n = if n < t.went then none else L[n]? := by
  unfold Tab.get
  split
  · rfl
  · rw [h.l, List.getElem?_drop]
    congr 1
    omega
theorem Tab.Of.less {t : Tab} {L : List Fd} (h : t.Of L) (n : Nat) : (t.less n).Of L := by
  have h1 := gone_le t.room n t.l
  have h2 := h.le
  have h3 : t.l.length = L.length - t.went := by rw [h.l, List.length_drop]
  refine ⟨by show t.went + gone t.room n t.l ≤ _; omega, ?_⟩
  show t.l.drop _ = L.drop (t.went + gone t.room n t.l)
  rw [← List.drop_drop, ← h.l]
theorem Tab.Of.add {t : Tab} {L : List Fd} (h : t.Of L) (f : Fd) (hf : ¬ t.room < sz f) : (t.add f).Of (L ++ [f]) := by
  have h1 := h.less (sz f)
  unfold Tab.add
  rw [if_neg hf]
  have hle : (t.less (sz f)).went ≤ L.length := h1.le
  have hl : (t.less (sz f)).l = L.drop (t.less (sz f)).went := h1.l
  refine ⟨by show (t.less (sz f)).went ≤ _; rw [List.length_append]; omega, ?_⟩
  show (t.less (sz f)).l ++ [f] = (L ++ [f]).drop (t.less (sz f)).went
  rw [hl, List.drop_append_of_le_length hle]
/-- The first place from k on of a field that p takes; -1: none. -/
def firstI (p : Fd → Bool) : List Fd → Nat → Int
  | [], _ => -1
  | g :: l, k => if p g then (k : Int) else firstI p l (k + 1)
theorem firstI_none {p : Fd → Bool} : ∀ {l : List Fd} {k : Nat}, (∀ g ∈ l, p g = false) → firstI p l k = -1
  | [], _, _ => rfl
  | g :: l, k, h => by
    rw [firstI, h g (by simp)]
    exact firstI_none fun x hx => h x (by simp [hx])
theorem firstI_at {p : Fd → Bool} : ∀ {l : List Fd} {k i : Nat} {g : Fd}, l[i]? = some g → p g = true → (∀ j x, j < i → l[j]? = some x → p x = false) → firstI p l k = ((k + i : Nat) : Int)
  | [], _, _, _, h, _, _ => by simp at h
  | x :: l, k, 0, g, h, hp, _ => by
    simp only [List.getElem?_cons_zero, Option.some.injEq] at h
    subst h
    rw [firstI, if_pos hp]
    rfl
  | x :: l, k, i + 1, g, h, hp, ho => by
    rw [List.getElem?_cons_succ] at h
    rw [firstI, ho 0 x (by omega) rfl]
    simp only [Bool.false_eq_true, if_false]
    rw [firstI_at h hp fun j y hj hy => ho (j + 1) y (by omega) (by rw [List.getElem?_cons_succ]; exact hy)]
    congr 1
    omega
theorem firstI_cases (p : Fd → Bool) (l : List Fd) (k : Nat) : (firstI p l k = -1 ∧ ∀ g ∈ l, p g = false) ∨ ∃ i g, l[i]? = some g ∧ p g = true ∧ (∀ j x, j < i → l[j]? = some x → p x = false) ∧ firstI p l k = ((k + i : Nat) : Int) := by
  induction l generalizing k with
  | nil => exact .inl ⟨rfl, fun g h => by simp at h⟩
  | cons x l ih =>
    cases hx : p x with
    | true => exact .inr ⟨0, x, rfl, hx, fun j _ hj => absurd hj (Nat.not_lt_zero _), by rw [firstI, if_pos hx]; rfl⟩
    | false =>
      rcases ih (k + 1) with ⟨h1, h2⟩ | ⟨i, g, h1, h2, h3, h4⟩
      · refine .inl ⟨by rw [firstI, hx]; exact h1, fun g hg => ?_⟩
        rcases List.mem_cons.1 hg with rfl | hg
        · exact hx
        · exact h2 g hg
      · refine .inr ⟨i + 1, g, by rw [List.getElem?_cons_succ]; exact h1, h2, fun j y hj hy => ?_, ?_⟩
        · match j with
          | 0 =>
            simp only [List.getElem?_cons_zero, Option.some.injEq] at hy
            rw [← hy]
            exact hx
          | j + 1 => exact h3 j y (by omega) (by rw [List.getElem?_cons_succ] at hy; exact hy)
        · rw [firstI, hx]
          simp only [Bool.false_eq_true, if_false]
          rw [h4]
          congr 1
          omega
/-- A step of a search from the end. -/
theorem firstI_drop {p : Fd → Bool} {l : List Fd} {i : Nat} {g : Fd} (h : l[i]? = some g) : firstI p (l.drop i) i = if p g then (i : Int) else firstI p (l.drop (i + 1)) (i + 1) := by
  obtain ⟨hi, he⟩ := List.getElem?_eq_some_iff.1 h
  rw [List.drop_eq_getElem_cons hi, firstI, he]
end Tb
end Go.Proofs.Ytoajnhngcfjohaa
