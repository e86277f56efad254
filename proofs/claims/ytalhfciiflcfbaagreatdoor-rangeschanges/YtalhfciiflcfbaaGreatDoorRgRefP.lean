/-
  Sets of numbers by their borders, as the document says it, on lists. No program in sight.
-/
import Derived.Test.YtalhfciiflcfbaaGreatDoorRgLaws
namespace Go.Proofs.YtalhfciiflcfbaaGreatDoor.Rg
open Go Fr

/-- A number into a list that rises, if it is not there. -/
def putN : List Nat → Nat → List Nat
  | [], n => [n]
  | x :: r, n => if x < n then x :: putN r n else if x = n then x :: r else n :: x :: r
theorem putN_mem : ∀ (l : List Nat) (n y : Nat), y ∈ putN l n ↔ y = n ∨ y ∈ l
  | [], n, y => by simp [putN]
  | x :: r, n, y => by
    unfold putN
    split
    · rw [List.mem_cons, putN_mem r n y, List.mem_cons]
      constructor
      · rintro (h | h | h)
        · exact .inr (.inl h)
        · exact .inl h
        · exact .inr (.inr h)
      · rintro (h | h | h)
        · exact .inr (.inl h)
        · exact .inl h
        · exact .inr (.inr h)
    · split
      · rename_i e
        subst e
        constructor
        · exact fun h => .inr h
        · rintro (h | h)
          · rw [h]; exact List.mem_cons_self ..
          · exact h
      · rw [List.mem_cons]
theorem putN_up : ∀ (l : List Nat) (n : Nat), Up l → Up (putN l n)
  | [], n, _ => List.pairwise_singleton ..
  | x :: r, n, h => by
    unfold putN
    split
    · rename_i hx
      refine List.pairwise_cons.2 ⟨fun y hy => ?_, putN_up r n (up_tail h)⟩
      rcases (putN_mem r n y).1 hy with rfl | hy
      · exact hx
      · exact up_head h y hy
    · split
      · exact h
      · refine List.pairwise_cons.2 ⟨fun y hy => ?_, h⟩
        rcases List.mem_cons.1 hy with rfl | hy
        · omega
        · have := up_head h y hy; omega
theorem putN_length (l : List Nat) (n : Nat) : (putN l n).length ≤ l.length + 1 := by
  induction l with
  | nil => simp [putN]
  | cons x r ih =>
    unfold putN
    split
    · simp only [List.length_cons]; omega
    · split
      · simp only [List.length_cons]; omega
      · simp only [List.length_cons]; omega
/-- As it is written: so many ahead, then the number, then the rest. -/
theorem putN_split : ∀ (l : List Nat) (n k : Nat), k ≤ l.length → (∀ x ∈ l.take k, x < n) → (k < l.length → ¬ l[k]?.getD 0 < n) → putN l n = if k < l.length ∧ l[k]?.getD 0 = n then l else l.take k ++ n :: l.drop k
  | [], n, k, hk, _, _ => by
    have : k = 0 := by simpa using hk
    subst this
    simp [putN]
  | x :: r, n, 0, _, _, h => by
    have h1 := h (by simp)
    simp only [List.getElem?_cons_zero, Option.getD_some] at h1
    unfold putN
    rw [if_neg h1]
    by_cases e : x = n
    · rw [if_pos e, if_pos ⟨by simp, by simpa using e⟩]
    · rw [if_neg e, if_neg (by simp; exact e)]; rfl
  | x :: r, n, k + 1, hk, ht, h => by
    have h1 := ht x (by simp)
    unfold putN
    rw [if_pos h1, putN_split r n k (by simpa using hk) (fun y hy => ht y (by rw [List.take_succ_cons]; exact List.mem_cons_of_mem _ hy)) (fun g => by have := h (by simpa using g); simpa using this)]
    by_cases e : k < r.length ∧ r[k]?.getD 0 = n
    · rw [if_pos e, if_pos (by simpa using e)]
    · rw [if_neg e, if_neg (by simpa using e)]; rfl
/-- The borders of a list's first ranges. -/
def bordersTo (l : List (Nat × Nat)) : List Nat := l.foldl (fun t r => putN (putN t r.1) (r.2 + 1)) []
theorem fold_up (l : List (Nat × Nat)) : ∀ t, Up t → Up (l.foldl (fun t r => putN (putN t r.1) (r.2 + 1)) t) := by
  induction l with
  | nil => exact fun t h => h
  | cons r l ih => exact fun t h => ih _ (putN_up _ _ (putN_up _ _ h))
theorem fold_mem (l : List (Nat × Nat)) : ∀ t y, y ∈ l.foldl (fun t r => putN (putN t r.1) (r.2 + 1)) t ↔ y ∈ t ∨ ∃ r ∈ l, y = r.1 ∨ y = r.2 + 1 := by
  induction l with
  | nil => intro t y; simp
  | cons r l ih =>
    intro t y
    rw [List.foldl_cons, ih, putN_mem, putN_mem]
    constructor
    · rintro ((h | h | h) | ⟨s, hs, h⟩)
      · exact .inr ⟨r, List.mem_cons_self .., .inr h⟩
      · exact .inr ⟨r, List.mem_cons_self .., .inl h⟩
      · exact .inl h
      · exact .inr ⟨s, List.mem_cons_of_mem _ hs, h⟩
    · rintro (h | ⟨s, hs, h⟩)
      · exact .inl (.inr (.inr h))
      · rcases List.mem_cons.1 hs with rfl | hs
        · rcases h with h | h
          · exact .inl (.inr (.inl h))
          · exact .inl (.inl h)
        · exact .inr ⟨s, hs, h⟩
theorem fold_length (l : List (Nat × Nat)) : ∀ t, (l.foldl (fun t r => putN (putN t r.1) (r.2 + 1)) t).length ≤ t.length + 2 * l.length := by
  induction l with
  | nil => intro t; simp
  | cons r l ih =>
    intro t
    have h1 := ih (putN (putN t r.1) (r.2 + 1))
    have h2 := putN_length (putN t r.1) (r.2 + 1)
    have h3 := putN_length t r.1
    rw [List.foldl_cons, List.length_cons]
    omega
theorem borders_up (l : List (Nat × Nat)) : Up (bordersTo l) := fold_up l [] List.Pairwise.nil
theorem borders_mem (l : List (Nat × Nat)) (y : Nat) : y ∈ bordersTo l ↔ ∃ r ∈ l, y = r.1 ∨ y = r.2 + 1 := by
  unfold bordersTo
  rw [fold_mem]
  simp
theorem borders_snoc (l : List (Nat × Nat)) (r : Nat × Nat) : bordersTo (l ++ [r]) = putN (putN (bordersTo l) r.1) (r.2 + 1) := by
  unfold bordersTo; rw [List.foldl_append]; rfl
theorem borders_length (l : List (Nat × Nat)) : (bordersTo l).length ≤ 2 * l.length := by
  have := fold_length l []
  simpa [bordersTo] using this
def gt (t : List Nat) (i : Nat) : Nat := t[i]?.getD 0
theorem gt_eq {t : List Nat} {i : Nat} (h : i < t.length) : gt t i = t[i] := by unfold gt; rw [List.getElem?_eq_getElem h]; rfl
theorem gt_mem {t : List Nat} {i : Nat} (h : i < t.length) : gt t i ∈ t := by rw [gt_eq h]; exact List.getElem_mem h
theorem gt_lt {t : List Nat} (hu : Up t) {i j : Nat} (hj : j < t.length) (h : i < j) : gt t i < gt t j := by
  rw [gt_eq hj, gt_eq (show i < t.length by omega)]
  exact List.pairwise_iff_getElem.1 hu i j (by omega) hj h
/-- No border lies between two that follow one another. -/
theorem gt_between {t : List Nat} (hu : Up t) {i : Nat} (hi : i + 1 < t.length) {y : Nat} (hy : y ∈ t) (h : y < gt t (i + 1)) : y ≤ gt t i := by
  obtain ⟨j, hj, rfl⟩ := List.mem_iff_getElem.1 hy
  rw [← gt_eq hj] at h ⊢
  by_cases g : j ≤ i
  · rcases Nat.lt_or_eq_of_le g with g | rfl
    · exact Nat.le_of_lt (gt_lt hu (by omega) g)
    · exact Nat.le_refl _
  · exfalso
    by_cases e : j = i + 1
    · subst e; omega
    · have := gt_lt hu hj (show i + 1 < j by omega); omega
theorem gt_first {t : List Nat} (hu : Up t) {y : Nat} (hy : y ∈ t) : gt t 0 ≤ y := by
  obtain ⟨j, hj, rfl⟩ := List.mem_iff_getElem.1 hy
  rw [← gt_eq hj]
  by_cases g : j = 0
  · subst g; exact Nat.le_refl _
  · exact Nat.le_of_lt (gt_lt hu hj (by omega))
theorem gt_last {t : List Nat} (hu : Up t) {y : Nat} (hy : y ∈ t) : y ≤ gt t (t.length - 1) := by
  obtain ⟨j, hj, rfl⟩ := List.mem_iff_getElem.1 hy
  rw [← gt_eq hj]
  by_cases g : j = t.length - 1
  · rw [← g]; exact Nat.le_refl _
  · exact Nat.le_of_lt (gt_lt hu (by omega) (by omega))
theorem has_between {t : List Nat} (hu : Up t) {l : List (Nat × Nat)} (hl : ∀ r ∈ l, r.1 ∈ t ∧ r.2 + 1 ∈ t) {i : Nat} (hi : i + 1 < t.length) {n : Nat} (h1 : gt t i ≤ n) (h2 : n < gt t (i + 1)) : hasL l n = hasL l (gt t i) := by
  unfold hasL
  rw [Bool.eq_iff_iff, List.any_eq_true, List.any_eq_true]
  constructor
  · rintro ⟨r, hr, h⟩
    simp only [Bool.and_eq_true, decide_eq_true_eq] at h
    have := gt_between hu hi (hl r hr).1 (by omega)
    exact ⟨r, hr, by simp only [Bool.and_eq_true, decide_eq_true_eq]; exact ⟨this, by omega⟩⟩
  · rintro ⟨r, hr, h⟩
    simp only [Bool.and_eq_true, decide_eq_true_eq] at h
    refine ⟨r, hr, by
      simp only [Bool.and_eq_true, decide_eq_true_eq]
      refine ⟨by omega, ?_⟩
      apply Classical.byContradiction
      intro g
      have := gt_between hu hi (hl r hr).2 (by omega)
      omega⟩
theorem has_outside {l : List (Nat × Nat)} {n : Nat} (h : ∀ r ∈ l, n < r.1 ∨ r.2 < n) : hasL l n = false := by
  unfold hasL
  rw [List.any_eq_false]
  intro r hr
  have := h r hr
  simp only [Bool.and_eq_true, decide_eq_true_eq]
  omega
theorem has_append (l m : List (Nat × Nat)) (n : Nat) : hasL (l ++ m) n = (hasL l n || hasL m n) := by unfold hasL; rw [List.any_append]
theorem setL_last : ∀ (p : List (Nat × Nat)) (x y z : Nat), setL (p ++ [(x, y)]) → y ≤ z → z ≤ 4611686018427387903 → setL (p ++ [(x, z)])
  | [], _, _, _, h, h1, h2 => ⟨Nat.le_trans h.1 h1, h2⟩
  | [(_, _)], _, _, _, h, h1, h2 => ⟨h.1, h.2.1, h.2.2.1, ⟨Nat.le_trans h.2.2.2.1 h1, h2⟩⟩
  | (_, _) :: (e, f) :: r, x, y, z, h, h1, h2 => ⟨h.1, h.2.1, h.2.2.1, setL_last ((e, f) :: r) x y z h.2.2.2 h1 h2⟩
/-- What the document's loop has when it stands at the i-th border. -/
structure Bt (rule : Bool → Bool → Bool) (a b : List (Nat × Nat)) (t : List Nat) (i : Nat) (out : List (Nat × Nat)) : Prop where
  set : setL out
  last : ∀ x, out.getLast? = some x → x.2 + 1 ≤ gt t i
  has : ∀ n, n < gt t i → hasL out n = rule (hasL a n) (hasL b n)
  len : out.length ≤ i
theorem hasL_below {out : List (Nat × Nat)} (hs : setL out) {m : Nat} (hl : ∀ x, out.getLast? = some x → x.2 + 1 ≤ m) {n : Nat} (h : m ≤ n) : hasL out n = false := by
  refine has_outside fun r hr => .inr ?_
  have : ∀ (o : List (Nat × Nat)), setL o → (∀ x, o.getLast? = some x → x.2 + 1 ≤ m) → ∀ r ∈ o, r.2 + 1 ≤ m := by
    intro o
    induction o with
    | nil => intro _ _ r hr; exact absurd hr List.not_mem_nil
    | cons x o ih =>
      intro ho hl r hr
      cases o with
      | nil =>
        rw [List.mem_singleton] at hr
        subst hr
        exact hl _ rfl
      | cons y o =>
        have h1 := ih (setL_tail ho) (fun z hz => hl z (by rw [List.getLast?_cons_cons]; exact hz))
        rcases List.mem_cons.1 hr with rfl | hr
        · obtain ⟨c, d⟩ := r
          obtain ⟨e, f⟩ := y
          have h2 := h1 _ (List.mem_cons_self ..)
          have h3 : d + 1 < e := ho.2.2.1
          have h4 := (setL_head (setL_tail ho)).1
          simp only at h2 ⊢
          omega
        · exact h1 r hr
  have := this out hs hl r hr
  omega
theorem bt_begin {rule : Bool → Bool → Bool} (hr : rule false false = false) (a b : List (Nat × Nat)) : Bt rule a b (bordersTo (a ++ b)) 0 [] := by
  refine ⟨trivial, fun _ h => (by simp at h), fun n hn => ?_, Nat.zero_le _⟩
  have hu := borders_up (a ++ b)
  rw [has_outside (l := a) fun r h => .inl (Nat.lt_of_lt_of_le hn (gt_first hu ((borders_mem _ _).2 ⟨r, List.mem_append_left _ h, .inl rfl⟩))), has_outside (l := b) fun r h => .inl (Nat.lt_of_lt_of_le hn (gt_first hu ((borders_mem _ _).2 ⟨r, List.mem_append_right _ h, .inl rfl⟩))), hr]
  rfl
theorem bt_all {a b : List (Nat × Nat)} : (∀ r ∈ a, r.1 ∈ bordersTo (a ++ b) ∧ r.2 + 1 ∈ bordersTo (a ++ b)) ∧ (∀ r ∈ b, r.1 ∈ bordersTo (a ++ b) ∧ r.2 + 1 ∈ bordersTo (a ++ b)) :=
  ⟨fun r h => ⟨(borders_mem _ _).2 ⟨r, List.mem_append_left _ h, .inl rfl⟩, (borders_mem _ _).2 ⟨r, List.mem_append_left _ h, .inr rfl⟩⟩, fun r h => ⟨(borders_mem _ _).2 ⟨r, List.mem_append_right _ h, .inl rfl⟩, (borders_mem _ _).2 ⟨r, List.mem_append_right _ h, .inr rfl⟩⟩⟩
theorem bt_skip {rule : Bool → Bool → Bool} {a b out : List (Nat × Nat)} {i : Nat} (h : Bt rule a b (bordersTo (a ++ b)) i out) (hi : i + 1 < (bordersTo (a ++ b)).length) (hn : rule (hasL a (gt (bordersTo (a ++ b)) i)) (hasL b (gt (bordersTo (a ++ b)) i)) = false) : Bt rule a b (bordersTo (a ++ b)) (i + 1) out := by
  have hu := borders_up (a ++ b)
  have hlt := gt_lt hu hi (Nat.lt_succ_self i)
  refine ⟨h.set, fun x hx => by have := h.last x hx; omega, fun n hlt2 => ?_, by have := h.len; omega⟩
  by_cases g : n < gt (bordersTo (a ++ b)) i
  · exact h.has n g
  · rw [hasL_below h.set h.last (by omega), has_between hu bt_all.1 hi (by omega) hlt2, has_between hu bt_all.2 hi (by omega) hlt2, hn]
theorem bt_bound {a b : List (Nat × Nat)} (ha : setL a) (hb : setL b) {y : Nat} (h : y ∈ bordersTo (a ++ b)) : y ≤ 4611686018427387904 := by
  obtain ⟨r, hr, e⟩ := (borders_mem _ _).1 h
  have key : ∀ (l : List (Nat × Nat)), setL l → r ∈ l → r.1 ≤ r.2 ∧ r.2 ≤ 4611686018427387903 := by
    intro l
    induction l with
    | nil => intro _ h; exact absurd h List.not_mem_nil
    | cons x l ih =>
      intro hl h
      rcases List.mem_cons.1 h with rfl | h
      · exact setL_head hl
      · exact ih (setL_tail hl) h
  rcases List.mem_append.1 hr with hr | hr
  · have := key a ha hr; omega
  · have := key b hb hr; omega
/-- A range more. -/
theorem bt_more {rule : Bool → Bool → Bool} {a b out : List (Nat × Nat)} (ha : setL a) (hb : setL b) {i : Nat} (h : Bt rule a b (bordersTo (a ++ b)) i out) (hi : i + 1 < (bordersTo (a ++ b)).length) (hn : rule (hasL a (gt (bordersTo (a ++ b)) i)) (hasL b (gt (bordersTo (a ++ b)) i)) = true) (hg : ∀ x, out.getLast? = some x → x.2 + 1 ≠ gt (bordersTo (a ++ b)) i) : Bt rule a b (bordersTo (a ++ b)) (i + 1) (out ++ [(gt (bordersTo (a ++ b)) i, gt (bordersTo (a ++ b)) (i + 1) - 1)]) := by
  have hu := borders_up (a ++ b)
  have hlt := gt_lt hu hi (Nat.lt_succ_self i)
  have hbd := bt_bound ha hb (gt_mem hi)
  refine ⟨setL_snoc out _ _ h.set (fun x hx => by have := h.last x hx; have := hg x hx; omega) (by omega) (by omega), fun x hx => ?_, fun n hlt2 => ?_, by rw [List.length_append, List.length_singleton]; have := h.len; omega⟩
  · rw [List.getLast?_append, List.getLast?_singleton] at hx
    simp only [Option.some_or, Option.some.injEq] at hx
    subst hx
    show _ - 1 + 1 ≤ _
    omega
  · rw [has_append, hasL_one]
    by_cases g : n < gt (bordersTo (a ++ b)) i
    · rw [h.has n g, decide_eq_false (show ¬ gt (bordersTo (a ++ b)) i ≤ n by omega)]; simp
    · rw [has_between hu bt_all.1 hi (by omega) hlt2, has_between hu bt_all.2 hi (by omega) hlt2, hn, decide_eq_true (show gt (bordersTo (a ++ b)) i ≤ n by omega), decide_eq_true (show n ≤ gt (bordersTo (a ++ b)) (i + 1) - 1 by omega)]; simp
/-- The last range goes on. -/
theorem bt_on {rule : Bool → Bool → Bool} {a b p : List (Nat × Nat)} {x y : Nat} (ha : setL a) (hb : setL b) {i : Nat} (h : Bt rule a b (bordersTo (a ++ b)) i (p ++ [(x, y)])) (hi : i + 1 < (bordersTo (a ++ b)).length) (hn : rule (hasL a (gt (bordersTo (a ++ b)) i)) (hasL b (gt (bordersTo (a ++ b)) i)) = true) (hg : y + 1 = gt (bordersTo (a ++ b)) i) : Bt rule a b (bordersTo (a ++ b)) (i + 1) (p ++ [(x, gt (bordersTo (a ++ b)) (i + 1) - 1)]) := by
  have hu := borders_up (a ++ b)
  have hlt := gt_lt hu hi (Nat.lt_succ_self i)
  have hbd := bt_bound ha hb (gt_mem hi)
  have hxy : x ≤ y := by
    have key : ∀ (q : List (Nat × Nat)), setL (q ++ [(x, y)]) → x ≤ y := by
      intro q
      induction q with
      | nil => exact fun h => h.1
      | cons c q ih => exact fun h => ih (setL_tail h)
    exact key p h.set
  refine ⟨setL_last p x y _ h.set (by omega) (by omega), fun z hz => ?_, fun n hlt2 => ?_, by have := h.len; rw [List.length_append, List.length_singleton] at this ⊢; omega⟩
  · rw [List.getLast?_append, List.getLast?_singleton] at hz
    simp only [Option.some_or, Option.some.injEq] at hz
    subst hz
    show _ - 1 + 1 ≤ _
    omega
  · by_cases g : n < gt (bordersTo (a ++ b)) i
    · rw [← h.has n g, has_append, has_append, hasL_one, hasL_one, decide_eq_true (show n ≤ gt (bordersTo (a ++ b)) (i + 1) - 1 by omega), decide_eq_true (show n ≤ y by omega)]
    · rw [has_append, hasL_one, has_between hu bt_all.1 hi (by omega) hlt2, has_between hu bt_all.2 hi (by omega) hlt2, hn, decide_eq_true (show x ≤ n by omega), decide_eq_true (show n ≤ gt (bordersTo (a ++ b)) (i + 1) - 1 by omega)]; simp
/-- At the last border. -/
theorem bt_end {rule : Bool → Bool → Bool} (hr : rule false false = false) {a b out : List (Nat × Nat)} (ha : setOk a) (hb : setOk b) {i : Nat} (h : Bt rule a b (bordersTo (a ++ b)) i out) (hi : (bordersTo (a ++ b)).length ≤ i + 1) (hi2 : i = 0 ∨ i < (bordersTo (a ++ b)).length) :
    Comb rule a b (if out.length ≤ 64 then out else []) (if out.length ≤ 64 then 0 else 6) := by
  have hu := borders_up (a ++ b)
  refine .inr ⟨⟨ha, hb⟩, out, h.set, fun n => ?_, ?_⟩
  · by_cases g : n < gt (bordersTo (a ++ b)) i
    · exact h.has n g
    · rw [hasL_below h.set h.last (by omega)]
      have key : ∀ l : List (Nat × Nat), (∀ r ∈ l, r.1 ∈ bordersTo (a ++ b) ∧ r.2 + 1 ∈ bordersTo (a ++ b)) → hasL l n = false := fun l hl => has_outside fun r hr => .inr (by
        have h1 := gt_last hu (hl r hr).2
        have h2 := List.length_pos_of_mem (hl r hr).2
        rcases Nat.lt_or_ge i (bordersTo (a ++ b)).length with h3 | h3
        · rw [show i = (bordersTo (a ++ b)).length - 1 by omega] at g; omega
        · exfalso
          omega)
      rw [key a bt_all.1, key b bt_all.2, hr]
  · by_cases g : out.length ≤ 64
    · rw [if_pos g, if_pos g]; exact .inl ⟨g, rfl, rfl⟩
    · rw [if_neg g, if_neg g]; exact .inr ⟨by omega, rfl, rfl⟩
end Go.Proofs.YtalhfciiflcfbaaGreatDoor.Rg
