/-
  Sets of numbers by the numbers at which they turn, on lists. No program in sight.
-/
import Derived.Test.YtohoieleakieeaaGeFrPlain
namespace Go.Proofs.Ytohoieleakieeaa.Rg
open Go Fr

/-- The numbers at which a set turns. -/
def turnsOf : List (Nat × Nat) → List Nat
  | [] => []
  | (x, y) :: r => x :: (y + 1) :: turnsOf r
/-- The ranges between turns; the last one may be open. -/
def pairsL : List Nat → List (Nat × Nat)
  | [] => []
  | [x] => [(x, 0)]
  | x :: y :: r => (x, y - 1) :: pairsL r
/-- Does a number stand behind an odd number of turns? -/
def par : List Nat → Nat → Bool
  | [], _ => false
  | x :: r, n => (decide (x ≤ n)) ^^ par r n
def hasL (l : List (Nat × Nat)) (n : Nat) : Bool := l.any fun r => decide (r.1 ≤ n) && decide (n ≤ r.2)
def Up (t : List Nat) : Prop := t.Pairwise (· < ·)
def oddB (n : Nat) : Bool := decide (n % 2 = 1)

theorem oddB_succ (n : Nat) : oddB (n + 1) = !oddB n := by
  unfold oddB
  by_cases h : n % 2 = 1
  · rw [decide_eq_true h, decide_eq_false (by omega)]; rfl
  · rw [decide_eq_false h, decide_eq_true (by omega)]; rfl
theorem par_append : ∀ (s t : List Nat) (n : Nat), par (s ++ t) n = (par s n ^^ par t n)
  | [], t, n => by simp [par]
  | x :: s, t, n => by rw [List.cons_append, par, par, par_append s t n, Bool.xor_assoc]
theorem par_below : ∀ (t : List Nat) (n : Nat), (∀ x ∈ t, n < x) → par t n = false
  | [], _, _ => rfl
  | x :: r, n, h => by
    have h1 := h x (List.mem_cons_self ..)
    rw [par, par_below r n (fun y hy => h y (List.mem_cons_of_mem _ hy)), decide_eq_false (by omega)]
    rfl
theorem par_all : ∀ (t : List Nat) (n : Nat), (∀ x ∈ t, x ≤ n) → par t n = oddB t.length
  | [], _, _ => rfl
  | x :: r, n, h => by
    rw [par, par_all r n (fun y hy => h y (List.mem_cons_of_mem _ hy)), decide_eq_true (h x (List.mem_cons_self ..)), List.length_cons, oddB_succ]
    simp
theorem up_tail {x : Nat} {t : List Nat} (h : Up (x :: t)) : Up t := (List.pairwise_cons.1 h).2
theorem up_head {x : Nat} {t : List Nat} (h : Up (x :: t)) : ∀ y ∈ t, x < y := (List.pairwise_cons.1 h).1
/-- A list that rises is told by where it turns. -/
theorem up_unique : ∀ (s t : List Nat), Up s → Up t → (∀ n, par s n = par t n) → s = t
  | [], [], _, _, _ => rfl
  | [], y :: t, _, ht, h => by
    have := h y
    rw [show par (y :: t) y = (decide (y ≤ y) ^^ par t y) from rfl, par_below t y (up_head ht), decide_eq_true (Nat.le_refl y)] at this
    simp [par] at this
  | x :: s, [], hs, _, h => by
    have := h x
    rw [show par (x :: s) x = (decide (x ≤ x) ^^ par s x) from rfl, par_below s x (up_head hs), decide_eq_true (Nat.le_refl x)] at this
    simp [par] at this
  | x :: s, y :: t, hs, ht, h => by
    have e : x = y := by
      rcases Nat.lt_trichotomy x y with g | g | g
      · have := h x
        rw [par, par_below s x (up_head hs), decide_eq_true (Nat.le_refl x), par_below (y :: t) x (fun z hz => by
          rcases List.mem_cons.1 hz with rfl | hz
          · exact g
          · exact Nat.lt_trans g (up_head ht z hz))] at this
        simp at this
      · exact g
      · have := h y
        rw [par_below (x :: s) y (fun z hz => by
          rcases List.mem_cons.1 hz with rfl | hz
          · exact g
          · exact Nat.lt_trans g (up_head hs z hz)), par, par_below t y (up_head ht), decide_eq_true (Nat.le_refl y)] at this
        simp at this
    subst e
    rw [up_unique s t (up_tail hs) (up_tail ht) fun n => by
      have := h n
      rw [par, par] at this
      revert this
      cases decide (x ≤ n) <;> cases par s n <;> cases par t n <;> simp]
theorem turns_length : ∀ (l : List (Nat × Nat)), (turnsOf l).length = 2 * l.length
  | [] => rfl
  | (x, y) :: r => by rw [turnsOf, List.length_cons, List.length_cons, turns_length r, List.length_cons]; omega
theorem turns_bound : ∀ (l : List (Nat × Nat)), setL l → ∀ x ∈ turnsOf l, x ≤ 4611686018427387904
  | [], _ => fun _ h => absurd h List.not_mem_nil
  | (x, y) :: r, h => fun z hz => by
    obtain ⟨h1, h2⟩ := setL_head h
    rw [turnsOf] at hz
    rcases List.mem_cons.1 hz with rfl | hz
    · omega
    rcases List.mem_cons.1 hz with rfl | hz
    · omega
    exact turns_bound r (setL_tail h) z hz
theorem turns_up : ∀ (l : List (Nat × Nat)), setL l → Up (turnsOf l)
  | [], _ => List.Pairwise.nil
  | [(x, y)], h => by
    obtain ⟨h1, h2⟩ := setL_head h
    show List.Pairwise _ [x, y + 1]
    rw [List.pairwise_cons]
    exact ⟨fun z hz => by rw [List.mem_singleton] at hz; omega, List.pairwise_singleton ..⟩
  | (x, y) :: (c, d) :: r, h => by
    obtain ⟨h1, h2⟩ := setL_head h
    have h3 := turns_up ((c, d) :: r) (setL_tail h)
    have h4 : y + 1 < c := h.2.2.1
    have h5 : ∀ z ∈ turnsOf ((c, d) :: r), y + 1 < z := fun z hz => by
      rw [turnsOf] at hz h3
      rcases List.mem_cons.1 hz with rfl | hz
      · exact h4
      · exact Nat.lt_trans h4 (up_head h3 z hz)
    rw [turnsOf]
    refine List.pairwise_cons.2 ⟨fun z hz => ?_, List.pairwise_cons.2 ⟨h5, h3⟩⟩
    rcases List.mem_cons.1 hz with rfl | hz
    · omega
    · have := h5 z hz; omega
theorem pairs_turns : ∀ (l : List (Nat × Nat)), pairsL (turnsOf l) = l
  | [] => rfl
  | (x, y) :: r => by rw [turnsOf, pairsL, pairs_turns r]; rfl
theorem turns_pairs : ∀ (t : List Nat), Up t → t.length % 2 = 0 → turnsOf (pairsL t) = t
  | [], _, _ => rfl
  | [x], _, h => by simp at h
  | x :: y :: r, hu, h => by
    have := up_head hu y (List.mem_cons_self ..)
    rw [pairsL, turnsOf, turns_pairs r (up_tail (up_tail hu)) (by simp only [List.length_cons] at h; omega), show y - 1 + 1 = y by omega]
theorem set_pairs : ∀ (t : List Nat), Up t → t.length % 2 = 0 → (∀ x ∈ t, x ≤ 4611686018427387904) → setL (pairsL t)
  | [], _, _, _ => trivial
  | [x], _, h, _ => by simp at h
  | [x, y], hu, _, hb => by
    have := up_head hu y (List.mem_cons_self ..)
    have := hb y (by simp)
    exact ⟨by omega, by omega⟩
  | [x, y, z], _, h, _ => by simp at h
  | x :: y :: z :: v :: r, hu, h, hb => by
    have h1 := up_head hu y (List.mem_cons_self ..)
    have h2 := up_head (up_tail hu) z (List.mem_cons_self ..)
    have h3 := hb y (by simp)
    have h4 := set_pairs (z :: v :: r) (up_tail (up_tail hu)) (by simp only [List.length_cons] at h ⊢; omega) (fun a ha => hb a (List.mem_cons_of_mem _ (List.mem_cons_of_mem _ ha)))
    rw [pairsL] at h4 ⊢
    rw [pairsL]
    exact ⟨by omega, by omega, by omega, h4⟩
theorem has_par : ∀ (l : List (Nat × Nat)), setL l → ∀ n, hasL l n = par (turnsOf l) n
  | [], _, _ => rfl
  | (x, y) :: r, h, n => by
    obtain ⟨h1, h2⟩ := setL_head h
    have hu := turns_up _ h
    have ih : (r.any fun r => decide (r.1 ≤ n) && decide (n ≤ r.2)) = par (turnsOf r) n := has_par r (setL_tail h) n
    rw [turnsOf] at hu
    show (decide (x ≤ n) && decide (n ≤ y) || r.any fun r => decide (r.1 ≤ n) && decide (n ≤ r.2)) = _
    rw [turnsOf, par, par, ih]
    by_cases hy : n ≤ y
    · rw [par_below (turnsOf r) n (fun z hz => by have := up_head (up_tail hu) z hz; omega), decide_eq_true hy, decide_eq_false (show ¬ y + 1 ≤ n by omega)]
      simp
    · rw [decide_eq_false hy, decide_eq_true (show y + 1 ≤ n by omega), decide_eq_true (show x ≤ n by omega)]
      simp
/-- Each set has one list. -/
theorem set_unique {a b : List (Nat × Nat)} (ha : setL a) (hb : setL b) (h : ∀ n, hasL a n = hasL b n) : a = b := by
  rw [← pairs_turns a, ← pairs_turns b, up_unique _ _ (turns_up a ha) (turns_up b hb) fun n => by rw [← has_par a ha, ← has_par b hb, h n]]
theorem pairs_length : ∀ (t : List Nat), (pairsL t).length = (t.length + 1) / 2
  | [] => rfl
  | [_] => by simp [pairsL]
  | x :: y :: r => by rw [pairsL, List.length_cons, pairs_length r]; simp only [List.length_cons]; omega
theorem pairs_even : ∀ (t : List Nat) (m : Nat), t.length % 2 = 0 → pairsL (t ++ [m]) = pairsL t ++ [(m, 0)]
  | [], _, _ => rfl
  | [x], _, h => by simp at h
  | x :: y :: r, m, h => by
    rw [List.cons_append, List.cons_append, pairsL, pairsL, pairs_even r m (by simp only [List.length_cons] at h; omega)]; rfl
theorem pairs_odd : ∀ (t : List Nat) (m : Nat), t.length % 2 = 1 → ∃ p x, pairsL t = p ++ [(x, 0)] ∧ pairsL (t ++ [m]) = p ++ [(x, m - 1)]
  | [], _, h => by simp at h
  | [x], m, _ => ⟨[], x, rfl, rfl⟩
  | x :: y :: r, m, h => by
    obtain ⟨p, z, e1, e2⟩ := pairs_odd r m (by simp only [List.length_cons] at h; omega)
    exact ⟨(x, y - 1) :: p, z, by rw [pairsL, e1]; rfl, by rw [List.cons_append, List.cons_append, pairsL, e2]; rfl⟩

/-! ### Two sets, turn by turn -/
/-- The i-th turn; behind all of them, never. -/
def nxt (t : List Nat) (i : Nat) : Nat := t[i]?.getD 18446744073709551615
/-- So far two lists of turns are gone through, and the answer's turns are these. -/
structure St (rule : Bool → Bool → Bool) (a b : List Nat) (i j : Nat) (t : List Nat) : Prop where
  hi : i ≤ a.length
  hj : j ≤ b.length
  up : Up t
  mem : ∀ x ∈ t, x ≤ 4611686018427387904
  lowA : ∀ x ∈ t, ∀ y ∈ a.drop i, x < y
  lowB : ∀ x ∈ t, ∀ y ∈ b.drop j, x < y
  lowAB : ∀ x ∈ a.take i, ∀ y ∈ b.drop j, x < y
  lowBA : ∀ x ∈ b.take j, ∀ y ∈ a.drop i, x < y
  par : ∀ n, (∀ y ∈ a.drop i, n < y) → (∀ y ∈ b.drop j, n < y) → par t n = rule (par a n) (par b n)
  ins : oddB t.length = rule (oddB i) (oddB j)
  len : t.length ≤ i + j
theorem st_begin (rule : Bool → Bool → Bool) (hr : rule false false = false) (a b : List Nat) : St rule a b 0 0 [] :=
  ⟨Nat.zero_le _, Nat.zero_le _, List.Pairwise.nil, fun _ h => absurd h List.not_mem_nil, fun _ h => absurd h List.not_mem_nil, fun _ h => absurd h List.not_mem_nil, fun _ h => absurd h List.not_mem_nil, fun _ h => absurd h List.not_mem_nil, fun n ha hb => by
    rw [par_below a n ha, par_below b n hb, hr]; rfl, by rw [show oddB 0 = false from rfl, hr]; rfl, Nat.zero_le _⟩
theorem par_count {a : List Nat} {i n : Nat} (hi : i ≤ a.length) (h1 : ∀ x ∈ a.take i, x ≤ n) (h2 : ∀ y ∈ a.drop i, n < y) : par a n = oddB i := by
  conv => lhs; rw [← List.take_append_drop i a]
  rw [par_append, par_all _ n h1, par_below _ n h2, List.length_take, Nat.min_eq_left hi]
  simp
theorem nxt_lt {a : List Nat} (_ : ∀ x ∈ a, x ≤ 4611686018427387904) {i : Nat} (h : nxt a i ≠ 18446744073709551615) : ∃ h : i < a.length, a[i] = nxt a i := by
  unfold nxt at h ⊢
  by_cases hi : i < a.length
  · exact ⟨hi, by rw [List.getElem?_eq_getElem hi]; rfl⟩
  · rw [List.getElem?_eq_none (by omega)] at h
    exact absurd rfl h
theorem nxt_le {a : List Nat} (hb : ∀ x ∈ a, x ≤ 4611686018427387904) (i : Nat) : nxt a i ≤ 18446744073709551615 := by
  unfold nxt
  by_cases hi : i < a.length
  · rw [List.getElem?_eq_getElem hi]
    have := hb _ (List.getElem_mem hi)
    show a[i] ≤ _
    omega
  · rw [List.getElem?_eq_none (by omega)]; exact Nat.le_refl _
theorem nxt_end {a : List Nat} (hb : ∀ x ∈ a, x ≤ 4611686018427387904) {i : Nat} (hi : i ≤ a.length) (h : nxt a i = 18446744073709551615) : i = a.length := by
  unfold nxt at h
  by_cases h' : i < a.length
  · rw [List.getElem?_eq_getElem h'] at h
    have := hb _ (List.getElem_mem h')
    have h'' : a[i] = 18446744073709551615 := h
    omega
  · omega
/-- What is still to come is the next turn, or above it. -/
theorem drop_ge {a : List Nat} (hu : Up a) {i : Nat} {y : Nat} (h : y ∈ a.drop i) : nxt a i ≤ y := by
  have hi : i < a.length := by
    apply Classical.byContradiction
    intro hn
    rw [List.drop_of_length_le (by omega)] at h
    exact absurd h List.not_mem_nil
  have e := List.drop_eq_getElem_cons hi
  have hu' : Up (a.drop i) := hu.sublist (List.drop_sublist i a)
  rw [e] at h hu'
  have e2 : nxt a i = a[i] := by unfold nxt; rw [List.getElem?_eq_getElem hi]; rfl
  rw [e2]
  rcases List.mem_cons.1 h with rfl | h
  · exact Nat.le_refl _
  · exact Nat.le_of_lt (up_head hu' y h)
theorem drop_gt {a : List Nat} (hu : Up a) {i : Nat} {y : Nat} (h : y ∈ a.drop (i + 1)) : nxt a i < y := by
  have hi : i < a.length := by
    apply Classical.byContradiction
    intro hn
    rw [List.drop_of_length_le (by omega)] at h
    exact absurd h List.not_mem_nil
  have e := List.drop_eq_getElem_cons hi
  have hu' : Up (a.drop i) := hu.sublist (List.drop_sublist i a)
  rw [e] at hu'
  have e2 : nxt a i = a[i] := by unfold nxt; rw [List.getElem?_eq_getElem hi]; rfl
  rw [e2]
  exact up_head hu' y h
theorem take_le {a : List Nat} (hu : Up a) {i : Nat} (hi : i < a.length) {x : Nat} (h : x ∈ a.take i) : x < nxt a i := by
  have e := List.take_append_drop i a
  have e2 : nxt a i = a[i] := by unfold nxt; rw [List.getElem?_eq_getElem hi]; rfl
  rw [e2]
  have hu' : List.Pairwise (· < ·) (a.take i ++ a.drop i) := by rw [e]; exact hu
  refine (List.pairwise_append.1 hu').2.2 x h _ ?_
  rw [List.drop_eq_getElem_cons hi]
  exact List.mem_cons_self ..
/-- Where a list stands when the turn m is done. -/
def go (a : List Nat) (i m : Nat) : Nat := if nxt a i = m then i + 1 else i
/-- The answer's turns with it. -/
def goT (rule : Bool → Bool → Bool) (i j : Nat) (t : List Nat) (m : Nat) : List Nat := if rule (oddB i) (oddB j) = oddB t.length then t else t ++ [m]
theorem go_drop {a : List Nat} (hu : Up a) {i m : Nat} (hm : m ≤ nxt a i) {y : Nat} (h : y ∈ a.drop (go a i m)) : m < y ∧ y ∈ a.drop i := by
  unfold go at h
  split at h
  · rename_i e
    refine ⟨by rw [← e]; exact drop_gt hu h, ?_⟩
    have := List.drop_sublist_drop_left a (Nat.le_succ i)
    exact this.subset h
  · rename_i e
    have := drop_ge hu h
    exact ⟨by omega, h⟩
theorem go_le {a : List Nat} (hb : ∀ x ∈ a, x ≤ 4611686018427387904) {i m : Nat} (hi : i ≤ a.length) (hm : m ≠ 18446744073709551615) : go a i m ≤ a.length := by
  unfold go
  split
  · rename_i e
    obtain ⟨h, _⟩ := nxt_lt hb (show nxt a i ≠ _ by omega)
    omega
  · exact hi
theorem go_take {a : List Nat} (_ : Up a) (hb : ∀ x ∈ a, x ≤ 4611686018427387904) {i m : Nat} (hm : m ≠ 18446744073709551615) (_ : m ≤ nxt a i) (low : ∀ x ∈ a.take i, x ≤ m) {x : Nat} (h : x ∈ a.take (go a i m)) : x ≤ m := by
  unfold go at h
  split at h
  · rename_i e
    obtain ⟨h1, h2⟩ := nxt_lt hb (show nxt a i ≠ _ by omega)
    rw [List.take_succ_eq_append_getElem h1] at h
    rcases List.mem_append.1 h with h | h
    · exact low x h
    · rw [List.mem_singleton] at h; omega
  · exact low x h
theorem go_more {a b : List Nat} {i j m : Nat} (hm : m = min (nxt a i) (nxt b j)) : i + j < go a i m + go b j m := by
  unfold go
  rcases Nat.le_total (nxt a i) (nxt b j) with g | g
  · rw [if_pos (show nxt a i = m by omega)]
    split <;> omega
  · rw [if_pos (show nxt b j = m by omega)]
    split <;> omega
theorem st_step {rule : Bool → Bool → Bool} {a b : List Nat} (ua : Up a) (ub : Up b) (ba : ∀ x ∈ a, x ≤ 4611686018427387904) (bb : ∀ x ∈ b, x ≤ 4611686018427387904) {i j : Nat} {t : List Nat} (h : St rule a b i j t) {m : Nat} (hm : m = min (nxt a i) (nxt b j)) (hn : m ≠ 18446744073709551615) :
    St rule a b (go a i m) (go b j m) (goT rule (go a i m) (go b j m) t m) := by
  have ma : m ≤ nxt a i := by omega
  have mb : m ≤ nxt b j := by omega
  have hmem : (∃ x, x ∈ a.drop i ∧ x = m) ∨ (∃ x, x ∈ b.drop j ∧ x = m) := by
    rcases Nat.le_total (nxt a i) (nxt b j) with g | g
    · have e : nxt a i = m := by omega
      obtain ⟨h1, h2⟩ := nxt_lt ba (show nxt a i ≠ _ by omega)
      exact .inl ⟨a[i], by rw [List.drop_eq_getElem_cons h1]; exact List.mem_cons_self .., by omega⟩
    · have e : nxt b j = m := by omega
      obtain ⟨h1, h2⟩ := nxt_lt bb (show nxt b j ≠ _ by omega)
      exact .inr ⟨b[j], by rw [List.drop_eq_getElem_cons h1]; exact List.mem_cons_self .., by omega⟩
  have hmle : m ≤ 4611686018427387904 := by
    rcases hmem with ⟨x, hx, rfl⟩ | ⟨x, hx, rfl⟩
    · exact ba _ (List.mem_of_mem_drop hx)
    · exact bb _ (List.mem_of_mem_drop hx)
  have tlow : ∀ x ∈ t, x < m := fun x hx => by
    rcases hmem with ⟨y, hy, rfl⟩ | ⟨y, hy, rfl⟩
    · exact h.lowA x hx _ hy
    · exact h.lowB x hx _ hy
  have alow : ∀ x ∈ a.take i, x ≤ m := fun x hx => by
    rcases hmem with ⟨y, hy, rfl⟩ | ⟨y, hy, rfl⟩
    · have hi : i < a.length := by
        apply Classical.byContradiction
        intro hn
        rw [List.drop_of_length_le (by omega)] at hy
        exact absurd hy List.not_mem_nil
      have h1 := take_le ua hi hx
      have h2 := drop_ge ua hy
      omega
    · exact Nat.le_of_lt (h.lowAB x hx _ hy)
  have blow : ∀ x ∈ b.take j, x ≤ m := fun x hx => by
    rcases hmem with ⟨y, hy, rfl⟩ | ⟨y, hy, rfl⟩
    · exact Nat.le_of_lt (h.lowBA x hx _ hy)
    · have hi : j < b.length := by
        apply Classical.byContradiction
        intro hn
        rw [List.drop_of_length_le (by omega)] at hy
        exact absurd hy List.not_mem_nil
      have h1 := take_le ub hi hx
      have h2 := drop_ge ub hy
      omega
  have hat : ∀ x ∈ goT rule (go a i m) (go b j m) t m, x ≤ m := fun x hx => by
    unfold goT at hx
    split at hx
    · exact Nat.le_of_lt (tlow x hx)
    · rcases List.mem_append.1 hx with hx | hx
      · exact Nat.le_of_lt (tlow x hx)
      · rw [List.mem_singleton] at hx; omega
  have hins : oddB (goT rule (go a i m) (go b j m) t m).length = rule (oddB (go a i m)) (oddB (go b j m)) := by
    unfold goT
    split
    · rename_i e; exact e.symm
    · rename_i e
      rw [List.length_append, List.length_singleton, oddB_succ]
      revert e
      cases rule (oddB (go a i m)) (oddB (go b j m)) <;> cases oddB t.length <;> simp
  have hlen : (goT rule (go a i m) (go b j m) t m).length ≤ go a i m + go b j m := by
    have h1 := go_more (a := a) (b := b) (i := i) (j := j) hm
    have h2 := h.len
    unfold goT
    split
    · omega
    · rw [List.length_append, List.length_singleton]; omega
  refine ⟨go_le ba h.hi hn, go_le bb h.hj hn, ?_, fun x hx => Nat.le_trans (hat x hx) hmle, fun x hx y hy => Nat.lt_of_le_of_lt (hat x hx) (go_drop ua ma hy).1, fun x hx y hy => Nat.lt_of_le_of_lt (hat x hx) (go_drop ub mb hy).1, fun x hx y hy => Nat.lt_of_le_of_lt (go_take ua ba hn ma alow hx) (go_drop ub mb hy).1, fun x hx y hy => Nat.lt_of_le_of_lt (go_take ub bb hn mb blow hx) (go_drop ua ma hy).1, fun n hna hnb => ?_, hins, hlen⟩
  · unfold goT
    split
    · exact h.up
    · exact List.pairwise_append.2 ⟨h.up, List.pairwise_singleton .., fun x hx y hy => by rw [List.mem_singleton] at hy; subst hy; exact tlow x hx⟩
  · by_cases hnm : n < m
    · have e : Rg.par (goT rule (go a i m) (go b j m) t m) n = Rg.par t n := by
        unfold goT
        split
        · rfl
        · rw [par_append, par, par, decide_eq_false (by omega)]; simp
      rw [e]
      exact h.par n (fun y hy => Nat.lt_of_lt_of_le hnm (Nat.le_trans ma (drop_ge ua hy))) (fun y hy => Nat.lt_of_lt_of_le hnm (Nat.le_trans mb (drop_ge ub hy)))
    · rw [par_all _ n (fun x hx => Nat.le_trans (hat x hx) (by omega)), hins, par_count (go_le ba h.hi hn) (fun x hx => Nat.le_trans (go_take ua ba hn ma alow hx) (by omega)) hna, par_count (go_le bb h.hj hn) (fun x hx => Nat.le_trans (go_take ub bb hn mb blow hx) (by omega)) hnb]
theorem goT_pre (rule : Bool → Bool → Bool) (i j : Nat) (t : List Nat) (m : Nat) : t <+: goT rule i j t m := by
  unfold goT
  split
  · exact List.prefix_refl _
  · exact List.prefix_append _ _
/-- However far it is, it comes to an end, and what was found stays. -/
theorem st_finish {rule : Bool → Bool → Bool} {a b : List Nat} (ua : Up a) (ub : Up b) (ba : ∀ x ∈ a, x ≤ 4611686018427387904) (bb : ∀ x ∈ b, x ≤ 4611686018427387904) : ∀ (k : Nat) (i j : Nat) (t : List Nat), a.length + b.length - (i + j) = k → St rule a b i j t → ∃ t', t <+: t' ∧ St rule a b a.length b.length t' := by
  intro k
  induction k using Nat.strongRecOn with
  | _ k ih =>
    intro i j t hk h
    by_cases hn : min (nxt a i) (nxt b j) = 18446744073709551615
    · have h1 := nxt_le ba i
      have h2 := nxt_le bb j
      have e1 := nxt_end ba h.hi (show nxt a i = _ by omega)
      have e2 := nxt_end bb h.hj (show nxt b j = _ by omega)
      subst e1 e2
      exact ⟨t, List.prefix_refl _, h⟩
    · have hs := st_step ua ub ba bb h rfl hn
      have hmo := go_more (a := a) (b := b) (i := i) (j := j) rfl
      have h1 := hs.hi
      have h2 := hs.hj
      obtain ⟨t', hp, hs'⟩ := ih _ (by omega) _ _ _ rfl hs
      exact ⟨t', (goT_pre ..).trans hp, hs'⟩
/-- What it comes to. -/
theorem st_end {rule : Bool → Bool → Bool} (hr : rule false false = false) {a b : List (Nat × Nat)} (ha : setL a) (hb : setL b) {t : List Nat} (h : St rule (turnsOf a) (turnsOf b) (turnsOf a).length (turnsOf b).length t) : setL (pairsL t) ∧ t.length % 2 = 0 ∧ ∀ n, hasL (pairsL t) n = rule (hasL a n) (hasL b n) := by
  have he : t.length % 2 = 0 := by
    have := h.ins
    rw [turns_length, turns_length, show oddB (2 * a.length) = false from decide_eq_false (by omega), show oddB (2 * b.length) = false from decide_eq_false (by omega), hr] at this
    have := of_decide_eq_false this
    omega
  have hs := set_pairs t h.up he h.mem
  refine ⟨hs, he, fun n => ?_⟩
  rw [has_par _ hs, turns_pairs t h.up he, has_par a ha, has_par b hb]
  exact h.par n (fun y hy => by rw [List.drop_length] at hy; exact absurd hy List.not_mem_nil) (fun y hy => by rw [List.drop_length] at hy; exact absurd hy List.not_mem_nil)

/-! ### What is answered -/
def setOk (l : List (Nat × Nat)) : Prop := l.length ≤ 64 ∧ setL l
/-- The answer of two sets by a rule, with its error. -/
def Comb (rule : Bool → Bool → Bool) (a b : List (Nat × Nat)) (out : List (Nat × Nat)) (E : Int) : Prop :=
  (¬ (setOk a ∧ setOk b) ∧ out = [] ∧ E = 1) ∨
  ((setOk a ∧ setOk b) ∧ ∃ u, setL u ∧ (∀ n, hasL u n = rule (hasL a n) (hasL b n)) ∧ (u.length ≤ 64 ∧ out = u ∧ E = 0 ∨ 64 < u.length ∧ out = [] ∧ E = 6))
def orB (x y : Bool) : Bool := x || y
def butB (x y : Bool) : Bool := x && !y
def andB (x y : Bool) : Bool := x && y
theorem comb_unique {rule : Bool → Bool → Bool} {a b o o' : List (Nat × Nat)} {E E' : Int} (h : Comb rule a b o E) (h' : Comb rule a b o' E') : o = o' ∧ E = E' := by
  rcases h with ⟨n, rfl, rfl⟩ | ⟨y, u, hu, hh, hc⟩
  · rcases h' with ⟨_, rfl, rfl⟩ | ⟨y', _⟩
    · exact ⟨rfl, rfl⟩
    · exact absurd y' n
  · rcases h' with ⟨n', _⟩ | ⟨_, u', hu', hh', hc'⟩
    · exact absurd y n'
    · obtain rfl := set_unique hu hu' (fun n => by rw [hh, hh'])
      rcases hc with ⟨g, rfl, rfl⟩ | ⟨g, rfl, rfl⟩ <;> rcases hc' with ⟨g', e1, e2⟩ | ⟨g', e1, e2⟩
      · exact ⟨e1.symm, e2.symm⟩
      · omega
      · omega
      · exact ⟨e1.symm, e2.symm⟩
end Go.Proofs.Ytohoieleakieeaa.Rg
