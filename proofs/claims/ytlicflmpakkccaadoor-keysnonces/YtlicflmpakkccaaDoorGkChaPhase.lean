/-
  A region that draws its order and has one operation, c, that parts it in two: what is read ahead of c may be taken first where S holds until c has come up.
-/
import Derived.Test.YtlicflmpakkccaaDoorGkShaHeld
namespace Go.Proofs.YtlicflmpakkccaaDoor
open Go Go.RowKit

section
variable {P : Program} {ops : Array Oper} {Q : Exit → Act → World → Prop} {md : Region.Mode} {c : Nat} {S : Bool → World → Prop}

/-- Whatever order is picked; behind each operation S holds, of whether c has come up. -/
def wpTwo (P : Program) (md : Region.Mode) (ops : Array Oper) (Q : Exit → Act → World → Prop) (c : Nat) (S : Bool → World → Prop) : Nat → Array Bool → Act → World → Prop
  | 0, l, a, w => Region.ready md ops l = [] ∧ Q .normal a w
  | k + 1, l, a, w => (Region.ready md ops l = [] → Q .normal a w) ∧
      ∀ i ∈ Region.ready md ops l, wpOp P ops Q i (fun a' w' => S ((l.setIfInBounds i true).getD c true) w' ∧ wpTwo P md ops Q c S k (l.setIfInBounds i true) a' w') a w

theorem wpTwo_any : ∀ (k : Nat) (l : Array Bool) (a : Act) (w : World), wpTwo P md ops Q c S k l a w → wpAny P md ops Q k l a w
  | 0, _, _, _, h => h
  | k + 1, _, _, _, h => ⟨h.1, fun i hi => wpOp_mono (fun a' w' h' => wpTwo_any k _ a' w' h'.2) (h.2 i hi)⟩

theorem two_begin {id : Nat} {a : Act} {w : World} (hm : P.follows .mixedOrders = true) (h : wpTwo P .any ops Q c S ops.size (Array.replicate ops.size false) a w.drew) : (Code.region id ops true).wp P Q a w :=
  wp_region_any hm (wpTwo_any _ _ _ _ h)

/-- What may be taken first: while i has not come up, Inv holds, and under Inv S tells what i needs. -/
theorem two_first {i : Nat} {o : Oper} {v : Value} {S' : World → Prop} {Inv : Array Bool → Prop} (hi : ops[i]? = some o) (hsel : ∀ (j : Nat) (o : Oper) cs b, ops[j]? = some o → o.op ≠ .select cs b)
    (hQ : ∀ c a w, Q (.panic c) (a.put o.dst v) w → Q (.panic c) a w) (hic : i ≠ c)
    (hInv : ∀ l j, Inv l → l.getD i true = false → i < l.size → j ∈ Region.ready md ops l → j ≠ i → Inv (l.setIfInBounds j true)) (hS' : ∀ l w, Inv l → S (l.getD c true) w → S' w) :
    ∀ (k : Nat) (l : Array Bool) (a : Act) (w : World),
      (∀ j oj, ops[j]? = some oj → j ≠ i → l.getD j true = false → (∀ e ∈ oj.after, Region.binds md e = true → e.on ≠ i) → o.apart ops oj = true) →
      Inv l → i < l.size → i ∈ Region.ready md ops l → YieldsIf P ops S' o v a → S (l.getD c true) w →
      wpTwo P md ops Q c S k (l.setIfInBounds i true) (a.put o.dst v) w → wpTwo P md ops Q c S (k + 1) l a w := by
  intro k
  induction k with
  | zero =>
    intro l a w _ hl hz hr hy hS H
    refine ⟨fun h => absurd hr (by rw [h]; simp), fun j hj => ?_⟩
    rcases Nat.decEq j i with hne | rfl
    · have := ready_mono hj hne
      rw [H.1] at this
      cases this
    · exact hy.wpOp hi (hS' l w hl hS) ⟨by rw [getD_set_ne true hic]; exact hS, H⟩
  | succ k ih =>
    intro l a w hfree hl hz hr hy hS H
    refine ⟨fun h => absurd hr (by rw [h]; simp), fun j hj => ?_⟩
    rcases Nat.decEq j i with hne | rfl
    · obtain ⟨hun, oj, hoj, hall⟩ := mem_ready.1 hj
      have hi0 := (mem_ready.1 hr).1
      have hno : ∀ e ∈ oj.after, Region.binds md e = true → e.on ≠ i := by
        intro e he hb hei
        have h1 := hall e he hb
        rw [hei] at h1
        simp [hz] at h1 hi0
        rw [hi0] at h1
        cases h1
      have h2 := wpOp_putIf hoj (hfree j oj hoj hne hun hno) (fun cs b => hsel i o cs b hi) (fun cs b => hsel j oj cs b hoj) hQ hy (H.2 j (ready_mono hj hne))
      refine wpOp_mono (fun a' w' h3 => ?_) h2
      obtain ⟨hy', hS1, h4⟩ := h3
      rw [Array.setIfInBounds_comm _ _ (Ne.symm hne), getD_set_ne true hic] at hS1
      rw [Array.setIfInBounds_comm _ _ (Ne.symm hne)] at h4
      refine ⟨hS1, ih (l.setIfInBounds j true) a' w' ?_ (hInv l j hl hi0 hz hj hne) (by simpa using hz) (ready_mono hr (Ne.symm hne)) hy' hS1 h4⟩
      intro m om hm hmi hmu hmn
      refine hfree m om hm hmi ?_ hmn
      rcases Nat.decEq j m with hjm | rfl
      · rw [getD_set_ne true hjm] at hmu; exact hmu
      · exact hun
    · exact hy.wpOp hi (hS' l w hl hS) ⟨by rw [getD_set_ne true hic]; exact hS, H⟩

/-- Taken first, at any time: what S tells behind c too. -/
theorem two_late {i : Nat} {o : Oper} {v : Value} {k : Nat} {l : Array Bool} {a : Act} {w : World} (b : Bool) (hb : l.getD c true = b) (hi : ops[i]? = some o) (hSS : ∀ w, S false w → S true w) (hic : i ≠ c)
    (hs : Region.noSelect ops = true) (hf : Region.free md ops l i = true) (hr : (Region.ready md ops l).contains i = true) (hz : i < l.size)
    (hQ : ∀ c a w, Q (.panic c) (a.put o.dst v) w → Q (.panic c) a w) (hw : Region.wanted o (yielded ops a.tmps) = true) (hy : ∀ W, S true W → (execOp a.eval o).run P W = .ok (.value v) W) (hS : S b w)
    (h : wpTwo P md ops Q c S k (l.setIfInBounds i true) (a.put o.dst v) w) : wpTwo P md ops Q c S (k + 1) l a w :=
  two_first (Inv := fun _ => True) (S' := S true) hi (Region.noSelect_spec hs) hQ hic (fun _ _ _ _ _ _ _ => trivial) (fun l w _ h => by cases hb : l.getD c true <;> rw [hb] at h; exact hSS _ h; exact h) k l a w
    (Region.free_spec hi hf) trivial hz (by simpa using hr) (.inl ⟨hw, hy⟩) (by rw [hb]; exact hS) h

/-- Taken first, ahead of c, which waits for it. -/
theorem two_early {i : Nat} {o oc : Oper} {v : Value} {k : Nat} {l : Array Bool} {a : Act} {w : World} (hi : ops[i]? = some o) (hc : ops[c]? = some oc) (hwait : (oc.after.any fun e => Region.binds md e && e.on == i) = true) (hic : i ≠ c)
    (hs : Region.noSelect ops = true) (hf : Region.free md ops l i = true) (hr : (Region.ready md ops l).contains i = true) (hz : i < l.size) (hcl : l.getD c true = false)
    (hQ : ∀ c a w, Q (.panic c) (a.put o.dst v) w → Q (.panic c) a w) (hw : Region.wanted o (yielded ops a.tmps) = true) (hy : ∀ W, S false W → (execOp a.eval o).run P W = .ok (.value v) W) (hS : S false w)
    (h : wpTwo P md ops Q c S k (l.setIfInBounds i true) (a.put o.dst v) w) : wpTwo P md ops Q c S (k + 1) l a w :=
  two_first (Inv := fun l => l.getD c true = false) (S' := S false) hi (Region.noSelect_spec hs) hQ hic
    (fun l j hl hi0 hz hj _ => by
      rcases Nat.decEq j c with hjc | rfl
      · rw [getD_set_ne true hjc]; exact hl
      · exfalso
        obtain ⟨_, oj, hoj, hall⟩ := mem_ready.1 hj
        obtain rfl := Option.some.inj (hc.symm.trans hoj)
        obtain ⟨e, he, hb⟩ := Array.any_eq_true'.1 hwait
        simp only [Bool.and_eq_true, beq_iff_eq] at hb
        have h1 := hall e he hb.1
        rw [hb.2] at h1
        simp [hz] at h1 hi0
        rw [hi0] at h1
        cases h1)
    (fun l w hl h => by rw [hl] at h; exact h) k l a w
    (Region.free_spec hi hf) hcl hz (by simpa using hr) (.inl ⟨hw, hy⟩) (by rw [hcl]; exact hS) h

/-- What comes up alone. -/
theorem two_alone {i : Nat} {o : Oper} {k : Nat} {l : Array Bool} {a : Act} {w : World} (b : Bool) (hb : (l.setIfInBounds i true).getD c true = b) (hi : ops[i]? = some o) (hr : Region.ready md ops l = [i]) (hw : Region.wanted o (yielded ops a.tmps) = true)
    (h : o.wp P a w (fun a' w' => S b w' ∧ wpTwo P md ops Q c S k (l.setIfInBounds i true) a' w') Q) : wpTwo P md ops Q c S (k + 1) l a w := by
  subst hb
  refine ⟨fun h0 => by rw [hr] at h0; simp at h0, fun j hj => ?_⟩
  rw [hr] at hj
  obtain rfl : j = i := by simpa using hj
  unfold wpOp
  simp only [hi, hw, if_true]
  exact .inl h
theorem two_done {l : Array Bool} {a : Act} {w : World} (hr : Region.ready md ops l = []) (h : Q .normal a w) : ∀ k, wpTwo P md ops Q c S k l a w
  | 0 => ⟨hr, h⟩
  | _ + 1 => ⟨fun _ => h, by rw [hr]; simp⟩
end
end Go.Proofs.YtlicflmpakkccaaDoor
