/-
  Runs of places, plainly: pairs that rise, none of them empty, with a gap between each two; what is added and cut. No program in sight.
-/
import Derived.WalkKit
namespace Go.Proofs.Ytnlckmopgkabpaa.Sr
open Go

abbrev Rn := Nat × Nat
def Has (l : List Rn) (x : Nat) : Prop := ∃ r ∈ l, r.1 ≤ x ∧ x < r.2
/-- Runs that rise, none of them empty, with a gap between each two. -/
def Canon : List Rn → Prop
  | [] => True
  | a :: l => a.1 < a.2 ∧ (∀ b ∈ l, a.2 < b.1) ∧ Canon l
theorem Canon.pos : ∀ {l : List Rn}, Canon l → ∀ r ∈ l, r.1 < r.2
  | [], _, r, hr => by cases hr
  | a :: l, h, r, hr => by
    rcases List.mem_cons.1 hr with rfl | hr
    · exact h.1
    · exact Canon.pos h.2.2 r hr
theorem has_nil {x : Nat} : ¬ Has [] x := fun ⟨_, h, _⟩ => by cases h
theorem has_cons {a : Rn} {l : List Rn} {x : Nat} : Has (a :: l) x ↔ (a.1 ≤ x ∧ x < a.2) ∨ Has l x := by
  unfold Has
  simp only [List.mem_cons, exists_eq_or_imp]
theorem has_append {l m : List Rn} {x : Nat} : Has (l ++ m) x ↔ Has l x ∨ Has m x := by
  induction l with
  | nil => simp [has_nil]
  | cons a l ih => rw [List.cons_append, has_cons, has_cons, ih, or_assoc]
theorem canon_append : ∀ {l m : List Rn}, Canon (l ++ m) ↔ Canon l ∧ Canon m ∧ ∀ a ∈ l, ∀ b ∈ m, a.2 < b.1
  | [], m => by simp [Canon]
  | a :: l, m => by
    rw [List.cons_append]
    show (_ ∧ _ ∧ Canon (l ++ m)) ↔ (_ ∧ _ ∧ Canon l) ∧ _
    rw [canon_append]
    constructor
    · rintro ⟨h1, h2, h3, h4, h5⟩
      refine ⟨⟨h1, fun b hb => h2 b (List.mem_append.2 (.inl hb)), h3⟩, h4, fun c hc b hb => ?_⟩
      rcases List.mem_cons.1 hc with rfl | hc
      · exact h2 b (List.mem_append.2 (.inr hb))
      · exact h5 c hc b hb
    · rintro ⟨⟨h1, h2, h3⟩, h4, h5⟩
      refine ⟨h1, fun b hb => ?_, h3, h4, fun c hc b hb => h5 c (List.mem_cons_of_mem _ hc) b hb⟩
      rcases List.mem_append.1 hb with hb | hb
      · exact h2 b hb
      · exact h5 a (List.mem_cons_self ..) b hb

/-- The first so many of which one thing holds, where it holds of a beginning: how many. -/
def cnt (p : Rn → Bool) (l : List Rn) : Nat := (l.takeWhile p).length
theorem cnt_le (p : Rn → Bool) (l : List Rn) : cnt p l ≤ l.length := (List.takeWhile_prefix p).length_le
theorem cnt_cons {p : Rn → Bool} {a : Rn} {l : List Rn} : cnt p (a :: l) = if p a then cnt p l + 1 else 0 := by
  unfold cnt
  rw [List.takeWhile_cons]
  split <;> simp
theorem cnt_yes {p : Rn → Bool} : ∀ {l : List Rn} {i : Nat} {r : Rn}, i < cnt p l → l[i]? = some r → p r = true
  | [], i, r, h, e => by simp at e
  | a :: l, i, r, h, e => by
    rw [cnt_cons] at h
    split at h
    · rename_i c
      cases i with
      | zero => simp at e; rw [← e]; exact c
      | succ i => exact cnt_yes (l := l) (i := i) (by omega) (by simpa using e)
    · omega
theorem cnt_no {p : Rn → Bool} : ∀ {l : List Rn} {r : Rn}, l[cnt p l]? = some r → p r = false
  | [], r, e => by simp at e
  | a :: l, r, e => by
    rw [cnt_cons] at e
    split at e
    · exact cnt_no (by simpa using e)
    · rename_i c
      simp at e c
      rw [← e]; exact c

/-- Does a run end ahead of another one (or just there); likewise, with a gap between them. -/
def aheadB (a b : Rn) : Bool := decide (a.2 ≤ b.1)
def apartB (a b : Rn) : Bool := decide (a.2 < b.1)
/-- From which one on, up to which they lie neither ahead of a run nor behind it. -/
def lo (bef : Rn → Rn → Bool) (l : List Rn) (r : Rn) : Nat := cnt (fun a => bef a r) l
def hi (bef : Rn → Rn → Bool) (l : List Rn) (r : Rn) : Nat := lo bef l r + cnt (fun a => !bef r a) (l.drop (lo bef l r))
theorem lo_le_hi (bef : Rn → Rn → Bool) (l : List Rn) (r : Rn) : lo bef l r ≤ hi bef l r := Nat.le_add_right _ _
theorem hi_le (bef : Rn → Rn → Bool) (l : List Rn) (r : Rn) : hi bef l r ≤ l.length := by
  unfold hi
  have h1 := cnt_le (fun a => !bef r a) (l.drop (lo bef l r))
  have h2 : lo bef l r ≤ l.length := cnt_le _ l
  rw [List.length_drop] at h1
  omega
/-- What is put in the place of some of them. -/
def repl (l : List Rn) (i j : Nat) (v : List Rn) : List Rn := l.take i ++ v ++ l.drop j
def fst (l : List Rn) : Rn := l.headD (0, 0)
def gl (l : List Rn) (i : Nat) : Rn := l.getD i (0, 0)
def add (l : List Rn) (r : Rn) : List Rn :=
  if r.1 = r.2 then l
  else repl l (lo apartB l r) (hi apartB l r) [if lo apartB l r < hi apartB l r then (min r.1 (gl l (lo apartB l r)).1, max r.2 (gl l (hi apartB l r - 1)).2) else r]
def stay (l : List Rn) (i j : Nat) (r : Rn) : List Rn := add (add [] (min (gl l i).1 r.1, r.1)) (r.2, max (gl l (j - 1)).2 r.2)
def cut (l : List Rn) (r : Rn) : List Rn :=
  if lo aheadB l r = hi aheadB l r then l
  else repl l (lo aheadB l r) (hi aheadB l r) (stay l (lo aheadB l r) (hi aheadB l r) r)
def each (f : List Rn → Rn → List Rn) (l : List Rn) (by' : List Rn) : List Rn := by'.foldl f l
def missing (l : List Rn) (r : Rn) : List Rn := each cut (add [] r) ((l.take (hi aheadB l r)).drop (lo aheadB l r))

/-- A list in three parts: those that lie ahead of a run, those that meet it, those behind. -/
structure Parts (bef : Rn → Rn → Bool) (l : List Rn) (r : Rn) (A B C : List Rn) : Prop where
  eq : l = A ++ B ++ C
  la : A.length = lo bef l r
  lb : B.length = hi bef l r - lo bef l r
  ahead : ∀ a ∈ A, bef a r = true
  mid : ∀ b ∈ B, bef r b = false
  fst : ∀ b, B.head? = some b → bef b r = false
  fstC : B = [] → ∀ c, C.head? = some c → bef c r = false
  sndC : ∀ c, C.head? = some c → bef r c = true
theorem parts (bef : Rn → Rn → Bool) (l : List Rn) (r : Rn) : ∃ A B C, Parts bef l r A B C := by
  have h1 : lo bef l r ≤ l.length := cnt_le _ l
  have h2 := lo_le_hi bef l r
  have h3 := hi_le bef l r
  have hc : hi bef l r = lo bef l r + cnt (fun a => !bef r a) (l.drop (lo bef l r)) := rfl
  have lB : ((l.drop (lo bef l r)).take (hi bef l r - lo bef l r)).length = hi bef l r - lo bef l r := by rw [List.length_take, List.length_drop]; omega
  refine ⟨l.take (lo bef l r), (l.drop (lo bef l r)).take (hi bef l r - lo bef l r), l.drop (hi bef l r), ?_, by rw [List.length_take]; omega, lB, ?_, ?_, ?_, ?_, ?_⟩
  · rw [List.append_assoc]
    conv => lhs; rw [← List.take_append_drop (lo bef l r) l, ← List.take_append_drop (hi bef l r - lo bef l r) (l.drop (lo bef l r)), List.drop_drop]
    rw [show lo bef l r + (hi bef l r - lo bef l r) = hi bef l r by omega]
  · intro a ha
    obtain ⟨i, e⟩ := List.mem_iff_getElem?.1 ha
    rw [List.getElem?_take] at e
    split at e
    · rename_i c; exact cnt_yes (p := fun a => bef a r) c e
    · cases e
  · intro b hb
    obtain ⟨i, e⟩ := List.mem_iff_getElem?.1 hb
    rw [List.getElem?_take] at e
    split at e
    · rename_i c
      have := cnt_yes (p := fun a => !bef r a) (l := l.drop (lo bef l r)) (i := i) (by omega) e
      simpa using this
    · cases e
  · intro b e
    rw [List.head?_eq_getElem?, List.getElem?_take] at e
    split at e
    · rw [List.getElem?_drop] at e
      exact cnt_no (p := fun a => bef a r) e
    · cases e
  · intro hB c e
    have : hi bef l r - lo bef l r = 0 := by rw [← lB, hB]; rfl
    rw [List.head?_eq_getElem?, List.getElem?_drop, show hi bef l r + 0 = lo bef l r by omega] at e
    exact cnt_no (p := fun a => bef a r) e
  · intro c e
    rw [List.head?_eq_getElem?, List.getElem?_drop] at e
    have := cnt_no (p := fun a => !bef r a) (l := l.drop (lo bef l r)) (r := c) (by rw [List.getElem?_drop]; exact e)
    simpa using this
/-- Of runs that rise: all that lie in the middle part meet the run, all behind it lie behind it. -/
theorem Parts.behind {bef : Rn → Rn → Bool} {l A B C : List Rn} {r : Rn} (h : Parts bef l r A B C) (hc : Canon l)
    (up : ∀ a b, bef r a = true → a.1 < b.1 → bef r b = true) : ∀ c ∈ C, bef r c = true := by
  intro c hC
  have hl := hc
  rw [h.eq] at hl
  have h2 := (canon_append.1 hl).2.1
  cases C with
  | nil => cases hC
  | cons d C =>
    have hd := h.sndC d rfl
    rcases List.mem_cons.1 hC with rfl | hC
    · exact hd
    · exact up d c hd (by have := h2.2.1 c hC; have := h2.1; omega)
theorem Parts.meet {bef : Rn → Rn → Bool} {l A B C : List Rn} {r : Rn} (h : Parts bef l r A B C) (hc : Canon l)
    (up : ∀ a b, bef b r = true → a.2 ≤ b.2 → bef a r = true) : ∀ b ∈ B, bef b r = false := by
  intro b hB
  have hl := hc
  rw [h.eq] at hl
  have h2 := (canon_append.1 (canon_append.1 hl).1).2.1
  cases B with
  | nil => cases hB
  | cons d B =>
    have hd := h.fst d rfl
    rcases List.mem_cons.1 hB with rfl | hB
    · exact hd
    · cases e : bef b r with
      | false => rfl
      | true =>
        have := h2.2.1 b hB
        have := h2.2.2.pos b hB
        exact absurd (up d b e (by omega)) (by rw [hd]; simp)
theorem Parts.repl {bef : Rn → Rn → Bool} {l A B C : List Rn} {r : Rn} (h : Parts bef l r A B C) (v : List Rn) : repl l (lo bef l r) (hi bef l r) v = A ++ v ++ C := by
  unfold Sr.repl
  have h1 := lo_le_hi bef l r
  have t1 : ∀ k, l.take k = (A ++ B ++ C).take k := fun k => by rw [← h.eq]
  have t2 : ∀ k, l.drop k = (A ++ B ++ C).drop k := fun k => by rw [← h.eq]
  have e1 : l.take (lo bef l r) = A := by
    rw [t1, List.append_assoc]
    exact List.take_left' h.la
  have e2 : l.drop (hi bef l r) = C := by
    rw [t2]
    exact List.drop_left' (by rw [List.length_append, h.la, h.lb]; omega)
  rw [e1, e2]
theorem Parts.lt {bef : Rn → Rn → Bool} {l A B C : List Rn} {r : Rn} (h : Parts bef l r A B C) : lo bef l r < hi bef l r ↔ B ≠ [] := by
  have := h.lb
  rw [← List.length_pos_iff]
  omega
theorem Parts.glA {bef : Rn → Rn → Bool} {l A B C : List Rn} {r b : Rn} (h : Parts bef l r A (b :: B) C) : gl l (lo bef l r) = b := by
  unfold gl
  have t1 : ∀ k : Nat, l[k]? = (A ++ (b :: B) ++ C)[k]? := fun k => by rw [← h.eq]
  rw [List.getD_eq_getElem?_getD, t1]
  rw [← h.la, List.append_assoc, List.getElem?_append_right (Nat.le_refl _), Nat.sub_self]
  rfl
theorem Parts.glB {bef : Rn → Rn → Bool} {l A B C : List Rn} {r b : Rn} (h : Parts bef l r A (B ++ [b]) C) : gl l (hi bef l r - 1) = b := by
  unfold gl
  have h1 := lo_le_hi bef l r
  have h2 := h.lb
  rw [List.length_append, List.length_singleton] at h2
  have t1 : ∀ k : Nat, l[k]? = (A ++ (B ++ [b]) ++ C)[k]? := fun k => by rw [← h.eq]
  rw [List.getD_eq_getElem?_getD, t1]
  rw [List.getElem?_append_left (by rw [List.length_append, List.length_append, h.la, List.length_singleton]; omega), List.getElem?_append_right (by rw [h.la]; omega),
    List.getElem?_append_right (by rw [h.la]; omega), h.la, show hi bef l r - 1 - lo bef l r - B.length = 0 by omega]
  rfl
theorem ends (B : List Rn) (h : B ≠ []) : ∃ b B', B = b :: B' ∧ ∃ e B'', B = B'' ++ [e] := by
  obtain ⟨b, B', rfl⟩ := List.exists_cons_of_ne_nil h
  refine ⟨b, B', rfl, (b :: B').getLast h, (b :: B').dropLast, ?_⟩
  exact (List.dropLast_concat_getLast h).symm

theorem add_laws {l : List Rn} (hc : Canon l) {r : Rn} (hr : r.1 ≤ r.2) : Canon (add l r) ∧ ∀ x, Has (add l r) x ↔ Has l x ∨ (r.1 ≤ x ∧ x < r.2) := by
  unfold add
  by_cases c0 : r.1 = r.2
  · rw [if_pos c0]
    exact ⟨hc, fun x => by constructor; exact .inl; rintro (h | h); exact h; omega⟩
  rw [if_neg c0]
  obtain ⟨A, B, C, h⟩ := parts apartB l r
  rw [h.repl]
  have hC := h.behind hc (fun a b h1 h2 => by simp only [apartB, decide_eq_true_eq] at h1 ⊢; omega)
  have hB := h.meet hc (fun a b h1 h2 => by simp only [apartB, decide_eq_true_eq] at h1 ⊢; omega)
  have hA := h.ahead
  have hM := h.mid
  simp only [apartB, decide_eq_true_eq, decide_eq_false_iff_not] at hA hB hC hM
  have hl := hc
  rw [h.eq] at hl
  obtain ⟨hAB, cC, hABC⟩ := canon_append.1 hl
  obtain ⟨cA, cB, hab⟩ := canon_append.1 hAB
  have hx : ∀ x, Has l x ↔ Has A x ∨ Has B x ∨ Has C x := fun x => by rw [h.eq, has_append, has_append, or_assoc]
  -- in either case one run that spans what it is to
  have key : ∀ v : Rn, v.1 < v.2 → (∀ a ∈ A, a.2 < v.1) → (∀ c ∈ C, v.2 < c.1) → (∀ x, (v.1 ≤ x ∧ x < v.2) ↔ Has B x ∨ (r.1 ≤ x ∧ x < r.2)) →
      Canon (A ++ [v] ++ C) ∧ ∀ x, Has (A ++ [v] ++ C) x ↔ Has l x ∨ (r.1 ≤ x ∧ x < r.2) := by
    intro v h1 h2 h3 h4
    constructor
    · refine canon_append.2 ⟨canon_append.2 ⟨cA, ⟨h1, fun b hb => (by cases hb), trivial⟩, fun a ha b hb => ?_⟩, cC, fun a ha b hb => ?_⟩
      · rw [List.mem_singleton.1 hb]; exact h2 a ha
      · rcases List.mem_append.1 ha with ha | ha
        · exact hABC a (List.mem_append.2 (.inl ha)) b hb
        · rw [List.mem_singleton.1 ha]; exact h3 b hb
    · intro x
      rw [has_append, has_append, has_cons, hx, h4]
      simp only [has_nil, or_false]
      constructor
      · rintro ((h | h | h) | h) <;> simp [h]
      · rintro ((h | h | h) | h) <;> simp [h]
  by_cases c1 : lo apartB l r < hi apartB l r
  · rw [if_pos c1]
    obtain ⟨b, B', e1, e, B'', e2⟩ := ends B (h.lt.1 c1)
    have g1 : gl l (lo apartB l r) = b := by rw [e1] at h; exact h.glA
    have g2 : gl l (hi apartB l r - 1) = e := by rw [e2] at h; exact h.glB
    rw [g1, g2]
    have mb : b ∈ B := by rw [e1]; exact List.mem_cons_self ..
    have me : e ∈ B := by rw [e2]; exact List.mem_append.2 (.inr (List.mem_singleton.2 rfl))
    have b1 := hB b mb
    have b2 := hM b mb
    have e3 := hB e me
    have e4 := hM e me
    have pb := cB.pos b mb
    have pe := cB.pos e me
    refine key _ (by show min r.1 b.1 < max r.2 e.2; omega) (fun a ha => by have := hA a ha; have := hab a ha b mb; show a.2 < min r.1 b.1; omega)
      (fun c hc' => by have := hC c hc'; have := hABC e (List.mem_append.2 (.inr me)) c hc'; show max r.2 e.2 < c.1; omega) (fun x => ?_)
    show min r.1 b.1 ≤ x ∧ x < max r.2 e.2 ↔ _
    have hin : ∀ y ∈ B, b.1 ≤ y.1 ∧ y.2 ≤ e.2 := by
      intro y hy
      constructor
      · rw [e1] at hy cB
        rcases List.mem_cons.1 hy with rfl | hy
        · exact Nat.le_refl _
        · have := cB.2.1 y hy; omega
      · rw [e2] at hy cB
        rcases List.mem_append.1 hy with hy | hy
        · have := (canon_append.1 cB).2.2 y hy e (List.mem_singleton.2 rfl); omega
        · rw [List.mem_singleton.1 hy]; exact Nat.le_refl _
    constructor
    · intro hx'
      by_cases c2 : r.1 ≤ x ∧ x < r.2
      · exact .inr c2
      · refine .inl ?_
        by_cases c3 : x < r.1
        · exact ⟨b, mb, by omega, by omega⟩
        · exact ⟨e, me, by omega, by omega⟩
    · rintro (⟨y, hy, h1, h2⟩ | h1)
      · have := hin y hy; omega
      · omega
  · rw [if_neg c1]
    have eB : B = [] := by
      cases B with
      | nil => rfl
      | cons b B => exact absurd (h.lt.2 (by simp)) c1
    refine key r (by omega) hA hC (fun x => ?_)
    rw [eB]
    simp only [has_nil, false_or]
/-- A run of a list that rises has its first place and its last one. -/
theorem Canon.has {l : List Rn} (h : Canon l) {r : Rn} (hr : r ∈ l) : Has l r.1 ∧ Has l (r.2 - 1) := by
  have := h.pos r hr
  exact ⟨⟨r, hr, Nat.le_refl _, this⟩, ⟨r, hr, by omega, by omega⟩⟩
theorem cut_laws {l : List Rn} (hc : Canon l) {r : Rn} (hr : r.1 ≤ r.2) : Canon (cut l r) ∧ ∀ x, Has (cut l r) x ↔ Has l x ∧ ¬ (r.1 ≤ x ∧ x < r.2) := by
  unfold cut
  obtain ⟨A, B, C, h⟩ := parts aheadB l r
  rw [h.repl]
  have hC := h.behind hc (fun a b h1 h2 => by simp only [aheadB, decide_eq_true_eq] at h1 ⊢; omega)
  have hB := h.meet hc (fun a b h1 h2 => by simp only [aheadB, decide_eq_true_eq] at h1 ⊢; omega)
  have hA := h.ahead
  have hM := h.mid
  simp only [aheadB, decide_eq_true_eq, decide_eq_false_iff_not] at hA hB hC hM
  have hl := hc
  rw [h.eq] at hl
  obtain ⟨hAB, cC, hABC⟩ := canon_append.1 hl
  obtain ⟨cA, cB, hab⟩ := canon_append.1 hAB
  have hx : ∀ x, Has l x ↔ Has A x ∨ Has B x ∨ Has C x := fun x => by rw [h.eq, has_append, has_append, or_assoc]
  have nA : ∀ x, Has A x → x < r.1 := fun x ⟨a, ha, _, h2⟩ => by have := hA a ha; omega
  have nC : ∀ x, Has C x → r.2 ≤ x := fun x ⟨a, ha, h1, _⟩ => by have := hC a ha; omega
  by_cases c1 : lo aheadB l r = hi aheadB l r
  · rw [if_pos c1]
    have eB : B = [] := by
      cases B with
      | nil => rfl
      | cons b B => exact absurd (h.lt.2 (by simp)) (by omega)
    refine ⟨hc, fun x => ⟨fun h1 => ⟨h1, ?_⟩, fun h1 => h1.1⟩⟩
    rw [hx, eB] at h1
    rcases h1 with h1 | h1 | h1
    · have := nA x h1; omega
    · exact absurd h1 has_nil
    · have := nC x h1; omega
  rw [if_neg c1]
  have c2 : lo aheadB l r < hi aheadB l r := by have := lo_le_hi aheadB l r; omega
  obtain ⟨b, B', e1, e, B'', e2⟩ := ends B (h.lt.1 c2)
  have g1 : gl l (lo aheadB l r) = b := by rw [e1] at h; exact h.glA
  have g2 : gl l (hi aheadB l r - 1) = e := by rw [e2] at h; exact h.glB
  unfold stay
  rw [g1, g2]
  have mb : b ∈ B := by rw [e1]; exact List.mem_cons_self ..
  have me : e ∈ B := by rw [e2]; exact List.mem_append.2 (.inr (List.mem_singleton.2 rfl))
  have b1 := hB b mb
  have b2 := hM b mb
  have e3 := hB e me
  have e4 := hM e me
  have pb := cB.pos b mb
  have pe := cB.pos e me
  have hin : ∀ y ∈ B, b.1 ≤ y.1 ∧ y.2 ≤ e.2 := by
    intro y hy
    constructor
    · rw [e1] at hy cB
      rcases List.mem_cons.1 hy with rfl | hy
      · exact Nat.le_refl _
      · have := cB.2.1 y hy; omega
    · rw [e2] at hy cB
      rcases List.mem_append.1 hy with hy | hy
      · have := (canon_append.1 cB).2.2 y hy e (List.mem_singleton.2 rfl); omega
      · rw [List.mem_singleton.1 hy]; exact Nat.le_refl _
  obtain ⟨s1, s2⟩ := add_laws (l := []) (r := (min b.1 r.1, r.1)) trivial (by show min b.1 r.1 ≤ r.1; omega)
  obtain ⟨s3, s4⟩ := add_laws (r := (r.2, max e.2 r.2)) s1 (by show r.2 ≤ max e.2 r.2; omega)
  have s5 : ∀ x, Has (add (add [] (min b.1 r.1, r.1)) (r.2, max e.2 r.2)) x ↔ (b.1 ≤ x ∧ x < r.1) ∨ (r.2 ≤ x ∧ x < e.2) := fun x => by
    rw [s4, s2]
    simp only [has_nil, false_or]
    omega
  generalize add (add [] (min b.1 r.1, r.1)) (r.2, max e.2 r.2) = S at s3 s5
  have hbe := hin b mb
  have hin2 : ∀ y ∈ S, b.1 ≤ y.1 ∧ y.2 ≤ e.2 := by
    intro y hy
    have h1 := (s5 _).1 (s3.has hy).1
    have h2 := (s5 _).1 (s3.has hy).2
    have := s3.pos y hy
    omega
  constructor
  · refine canon_append.2 ⟨canon_append.2 ⟨cA, s3, fun a ha y hy => ?_⟩, cC, fun a ha y hy => ?_⟩
    · have := hab a ha b mb; have := hin2 y hy; omega
    · rcases List.mem_append.1 ha with ha | ha
      · exact hABC a (List.mem_append.2 (.inl ha)) y hy
      · have := hin2 a ha; have := hABC e (List.mem_append.2 (.inr me)) y hy; omega
  · intro x
    rw [has_append, has_append, hx, s5]
    constructor
    · rintro ((h1 | h1 | h1) | h1)
      · exact ⟨.inl h1, by have := nA x h1; omega⟩
      · exact ⟨.inr (.inl ⟨b, mb, by omega, by omega⟩), by omega⟩
      · exact ⟨.inr (.inl ⟨e, me, by omega, by omega⟩), by omega⟩
      · exact ⟨.inr (.inr h1), by have := nC x h1; omega⟩
    · rintro ⟨h1 | ⟨y, hy, h1, h2⟩ | h1, h3⟩
      · exact .inl (.inl h1)
      · have := hin y hy
        exact .inl (.inr (by omega))
      · exact .inr h1
theorem each_add {by' : List Rn} : ∀ {l : List Rn}, Canon l → (∀ r ∈ by', r.1 ≤ r.2) → Canon (each add l by') ∧ ∀ x, Has (each add l by') x ↔ Has l x ∨ Has by' x := by
  induction by' with
  | nil => intro l h _; exact ⟨h, fun x => by show Has l x ↔ _; simp [has_nil]⟩
  | cons r by' ih =>
    intro l h hb
    obtain ⟨h1, h2⟩ := add_laws h (hb r (List.mem_cons_self ..))
    obtain ⟨h3, h4⟩ := ih h1 (fun a ha => hb a (List.mem_cons_of_mem _ ha))
    refine ⟨h3, fun x => ?_⟩
    show Has (each add (add l r) by') x ↔ _
    rw [h4, h2, has_cons, or_assoc]
theorem each_cut {by' : List Rn} : ∀ {l : List Rn}, Canon l → (∀ r ∈ by', r.1 ≤ r.2) → Canon (each cut l by') ∧ ∀ x, Has (each cut l by') x ↔ Has l x ∧ ¬ Has by' x := by
  induction by' with
  | nil => intro l h _; exact ⟨h, fun x => by show Has l x ↔ _; simp [has_nil]⟩
  | cons r by' ih =>
    intro l h hb
    obtain ⟨h1, h2⟩ := cut_laws h (hb r (List.mem_cons_self ..))
    obtain ⟨h3, h4⟩ := ih h1 (fun a ha => hb a (List.mem_cons_of_mem _ ha))
    refine ⟨h3, fun x => ?_⟩
    show Has (each cut (cut l r) by') x ↔ _
    rw [h4, h2, has_cons, not_or, and_assoc]
/-- The runs of a list that meet a run. -/
def mids (l : List Rn) (r : Rn) : List Rn := (l.take (hi aheadB l r)).drop (lo aheadB l r)
theorem mids_mem {l : List Rn} {r a : Rn} (h : a ∈ mids l r) : a ∈ l := List.mem_of_mem_take (List.mem_of_mem_drop h)
theorem missing_laws {l : List Rn} (hc : Canon l) {r : Rn} (hr : r.1 ≤ r.2) : Canon (missing l r) ∧ ∀ x, Has (missing l r) x ↔ (r.1 ≤ x ∧ x < r.2) ∧ ¬ Has l x := by
  obtain ⟨h1, h2⟩ := add_laws (l := []) trivial hr
  obtain ⟨h3, h4⟩ := each_cut (by' := mids l r) h1 (fun a ha => Nat.le_of_lt (hc.pos a (mids_mem ha)))
  refine ⟨h3, fun x => ?_⟩
  show Has (each cut (add [] r) (mids l r)) x ↔ _
  rw [h4, h2]
  simp only [has_nil, false_or]
  refine and_congr_right fun hx => not_congr ⟨fun ⟨a, ha, h5⟩ => ⟨a, mids_mem ha, h5⟩, fun ⟨a, ha, h5⟩ => ⟨a, ?_, h5⟩⟩
  obtain ⟨A, B, C, h⟩ := parts aheadB l r
  have hC := h.behind hc (fun a b h1 h2 => by simp only [aheadB, decide_eq_true_eq] at h1 ⊢; omega)
  have hA := h.ahead
  simp only [aheadB, decide_eq_true_eq] at hA hC
  have hlh := lo_le_hi aheadB l r
  have t1 : ∀ k j, (l.take k).drop j = ((A ++ B ++ C).take k).drop j := fun k j => by rw [← h.eq]
  have e1 : mids l r = B := by
    unfold mids
    rw [t1, List.take_left' (by rw [List.length_append, h.la, h.lb]; omega)]
    exact List.drop_left' h.la
  rw [e1]
  rw [h.eq] at ha
  rcases List.mem_append.1 ha with ha | ha
  · rcases List.mem_append.1 ha with ha | ha
    · have := hA a ha; omega
    · exact ha
  · have := hC a ha; omega
theorem fst_laws {l : List Rn} (hc : Canon l) (hn : l ≠ []) : (fst l).1 < (fst l).2 ∧ (∀ x, x < (fst l).1 → ¬ Has l x) ∧ (∀ x, (fst l).1 ≤ x → x < (fst l).2 → Has l x) ∧ ¬ Has l (fst l).2 := by
  cases l with
  | nil => exact absurd rfl hn
  | cons a l =>
    refine ⟨hc.1, fun x hx h => ?_, fun x h1 h2 => has_cons.2 (.inl ⟨h1, h2⟩), fun h => ?_⟩
    · have hx : x < a.1 := hx
      rcases has_cons.1 h with h | ⟨b, hb, h1, h2⟩
      · omega
      · have := hc.2.1 b hb; have := hc.1; omega
    · rcases has_cons.1 h with ⟨h1, h2⟩ | ⟨b, hb, h1, h2⟩
      · exact absurd h2 (Nat.lt_irrefl _)
      · have := hc.2.1 b hb
        have h1 : b.1 ≤ a.2 := h1
        omega
/-- Runs of places below a number are no more than that. -/
theorem canon_len : ∀ {l : List Rn}, Canon l → ∀ {k N : Nat}, (∀ r ∈ l, k ≤ r.1 ∧ r.2 ≤ N) → k ≤ N → k + l.length ≤ N
  | [], _, k, N, _, h => h
  | a :: l, hc, k, N, hb, h => by
    have h1 := hb a (List.mem_cons_self ..)
    have := hc.1
    have := canon_len hc.2.2 (k := a.2) (N := N) (fun r hr => ⟨Nat.le_of_lt (hc.2.1 r hr), (hb r (List.mem_cons_of_mem _ hr)).2⟩) h1.2
    rw [List.length_cons]
    omega
theorem canon_top {l : List Rn} (hc : Canon l) {N : Nat} (hb : ∀ x, Has l x → x < N) : (∀ r ∈ l, r.2 ≤ N) ∧ l.length ≤ N := by
  have h1 : ∀ r ∈ l, r.2 ≤ N := fun r hr => by have := hb _ (hc.has hr).2; have := hc.pos r hr; omega
  exact ⟨h1, by have := canon_len hc (k := 0) (N := N) (fun r hr => ⟨Nat.zero_le _, h1 r hr⟩) (Nat.zero_le _); omega⟩
end Go.Proofs.Ytnlckmopgkabpaa.Sr
