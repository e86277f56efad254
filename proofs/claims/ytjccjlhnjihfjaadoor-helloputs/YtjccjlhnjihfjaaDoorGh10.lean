/-
  Out of PlInv, AeInv, AeVals, AeVals2, FrChain.
-/
import Derived.Test.YtjccjlhnjihfjaaDoorGh3
import Derived.Test.YtjccjlhnjihfjaaDoorGh1
import Derived.RangeFuncCalls

/-! A region that draws its order, by what holds at every state on the way: no program in sight. -/
namespace Go.Proofs.YtjccjlhnjihfjaaDoor
open Go Go.RowKit

/-- The i-th is done. -/
def On (l : Array Bool) (i : Nat) : Prop := l.getD i false = true
theorem On.of_set {l : Array Bool} {i j : Nat} (h : On (l.setIfInBounds i true) j) (hij : i ≠ j) : On l j := by
  unfold On at *
  rw [Array.getD_eq_getD_getElem?] at *
  rwa [Array.getElem?_setIfInBounds_ne hij] at h
theorem On.set {l : Array Bool} {i j : Nat} (h : On l j) : On (l.setIfInBounds i true) j := by
  unfold On at *
  rw [Array.getD_eq_getD_getElem?] at *
  rw [Array.getElem?_setIfInBounds]
  split
  · split
    · rfl
    · rename_i h1 h2
      rw [Array.getElem?_eq_none (by omega)] at h
      cases h
  · exact h

theorem On.self {l : Array Bool} {i : Nat} (h : i < l.size) : On (l.setIfInBounds i true) i := by
  unfold On
  rw [Array.getD_eq_getD_getElem?, Array.getElem?_setIfInBounds_self_of_lt h]
  rfl
theorem On.none (N i : Nat) : ¬ On (Array.replicate N false) i := by
  unfold On
  rw [Array.getD_eq_getD_getElem?, Array.getElem?_replicate]
  split <;> simp

section
variable {F : Fence} {n : Nat} {P : Program} {ops : Array Oper} {Q : Exit → Act → World → Prop} {md : Region.Mode}
theorem count_set (l : Array Bool) (i : Nat) (hi : i < l.size) (h : l.getD i false = false) : (l.setIfInBounds i true).toList.count false + 1 = l.toList.count false := by
  obtain ⟨l⟩ := l
  simp only [List.size_toArray] at hi
  rw [Array.getD_eq_getD_getElem?] at h
  simp only [List.getElem?_toArray, List.getElem?_eq_getElem hi, Option.getD_some] at h
  simp only [List.setIfInBounds_toArray]
  induction l generalizing i with
  | nil => simp at hi
  | cons b l ih =>
    cases i with
    | zero =>
      simp at h
      subst h
      simp
    | succ i =>
      simp at h hi
      have := ih i hi h
      simp only [List.set_cons_succ, List.count_cons]
      omega

end
end Go.Proofs.YtjccjlhnjihfjaaDoor

/-! A region that draws its order, by what holds at every state on the way, of any number of operations: what is asked of its order is read off its edges. No program in sight. -/
namespace Go.Proofs.YtjccjlhnjihfjaaDoor
open Go Go.RowKit

/-- Values by their numbers, one of them another. -/
def updV (x : Nat → Value) (i : Nat) (v : Value) : Nat → Value := fun j => if j = i then v else x j
theorem updV_self {x : Nat → Value} {i : Nat} {v : Value} (h : x i = v) : x = updV x i v := by
  funext j
  unfold updV
  split
  · rename_i e; rw [e, h]
  · rfl

section
variable {F : Fence} {n : Nat} {P : Program} {ops : Array Oper} {Q : Exit → Act → World → Prop} {md : Region.Mode}
/-- What an operation is said to wait for is an edge that binds; and each edge that binds goes back. -/
def edgesB (md : Region.Mode) (ops : Array Oper) (dep : Nat → List Nat) : Bool :=
  (List.range ops.size).all fun i => match ops[i]? with
    | none => false
    | some o => ((dep i).all fun j => o.after.toList.any fun e => decide (e.on = j) && Region.binds md e) && o.after.toList.all fun e => !Region.binds md e || decide (e.on < i)

theorem anyIn_inv2 {Inv : Array Bool → Act → World → Prop} (dep : Nat → List Nat) (N : Nat) (hN : ops.size = N) (hd : edgesB md ops dep = true)
    (hstep : ∀ l a w i, l.size = N → Inv l a w → i < N → ¬ On l i → (∀ j ∈ dep i, On l j) → wpOpIn F n P ops Q i (Inv (l.setIfInBounds i true)) a w)
    (hdone : ∀ l a w, Inv l a w → (∀ i, i < N → On l i) → Q .normal a w) :
    ∀ (fuel : Nat) (l : Array Bool) (a : Act) (w : World), l.size = N → l.toList.count false ≤ fuel → Inv l a w → wpAnyIn F n P md ops Q fuel l a w := by
  have hall : ∀ i, i < N → ∃ o, ops[i]? = some o ∧ (∀ j ∈ dep i, ∃ e ∈ o.after.toList, e.on = j ∧ Region.binds md e = true) ∧ ∀ e ∈ o.after.toList, Region.binds md e = true → e.on < i := by
    intro i hi
    have h := List.all_eq_true.1 hd i (by rw [List.mem_range, hN]; exact hi)
    cases ho : ops[i]? with
    | none => simp [ho] at h
    | some o =>
      simp only [ho, Bool.and_eq_true] at h
      refine ⟨o, rfl, fun j hj => ?_, fun e he hb => ?_⟩
      · obtain ⟨e, he, h1⟩ := List.any_eq_true.1 (List.all_eq_true.1 h.1 j hj)
        simp only [Bool.and_eq_true, decide_eq_true_eq] at h1
        exact ⟨e, he, h1.1, h1.2⟩
      · have h1 := List.all_eq_true.1 h.2 e he
        rw [hb] at h1
        simpa using h1
  have key : ∀ l : Array Bool, l.size = N → (∀ i ∈ Region.ready md ops l, i < N ∧ l.getD i false = false ∧ ∀ j ∈ dep i, On l j) ∧ (Region.ready md ops l = [] → ∀ i, i < N → On l i) := by
    intro l hl
    refine ⟨fun i hi => ?_, fun h0 => ?_⟩
    · unfold Region.ready at hi
      rw [List.mem_filter, List.mem_range, hN] at hi
      obtain ⟨h1, h2⟩ := hi
      obtain ⟨o, ho, hdep, _⟩ := hall i h1
      simp only [ho, Option.map_some, Option.getD_some, Bool.and_eq_true, Bool.not_eq_true'] at h2
      have h3 : l.getD i false = false := by
        have := h2.1
        rw [Array.getD_eq_getD_getElem?, Array.getElem?_eq_getElem (by omega)] at this ⊢
        simpa using this
      refine ⟨h1, h3, fun j hj => ?_⟩
      obtain ⟨e, he, rfl, hb⟩ := hdep j hj
      have h4 := Array.all_eq_true'.1 h2.2 e (by simpa using he)
      rw [hb] at h4
      unfold On
      simpa using h4
    · intro i
      induction i using Nat.strongRecOn with
      | _ i ih =>
        intro hi
        obtain ⟨o, ho, _, hback⟩ := hall i hi
        cases hc : l.getD i false with
        | true => exact hc
        | false =>
          exfalso
          have hm : i ∈ Region.ready md ops l := by
            unfold Region.ready
            rw [List.mem_filter, List.mem_range, hN]
            refine ⟨hi, ?_⟩
            simp only [ho, Option.map_some, Option.getD_some, Bool.and_eq_true, Bool.not_eq_true']
            refine ⟨?_, Array.all_eq_true'.2 fun e he => ?_⟩
            · rw [Array.getD_eq_getD_getElem?, Array.getElem?_eq_getElem (by omega)] at hc ⊢
              simpa using hc
            · cases hb : Region.binds md e with
              | false => rfl
              | true =>
                have h1 := hback e (by simpa using he) hb
                have h2 := ih e.on h1 (by omega)
                unfold On at h2
                simpa using h2
          rw [h0] at hm
          cases hm
  intro fuel
  induction fuel with
  | zero =>
    intro l a w hl hc hI
    have h0 : Region.ready md ops l = [] := by
      cases hr : Region.ready md ops l with
      | nil => rfl
      | cons i r =>
        exfalso
        have h1 := (key l hl).1 i (by rw [hr]; simp)
        have h2 := count_set l i (by omega) h1.2.1
        omega
    exact ⟨h0, hdone l a w hI ((key l hl).2 h0)⟩
  | succ fuel ih =>
    intro l a w hl hc hI
    refine ⟨fun h0 => hdone l a w hI ((key l hl).2 h0), fun i hi => ?_⟩
    have h1 := (key l hl).1 i hi
    have h2 := count_set l i (by omega) h1.2.1
    exact wpOpIn_mono (fun a' w' hI' => ih _ a' w' (by rw [Array.size_setIfInBounds]; exact hl) (by omega) hI') (hstep l a w i hl hI h1.1 (by unfold On; rw [h1.2.1]; simp) h1.2.2)
end
/-- A region that reads and calls: each operation that is done has brought its value about. -/
structure JV (V : Nat → Value) (w0 : World) (l : Array Bool) (W : World) (x : Nat → Value) : Prop where
  bel : Below w0.heap.size w0 W
  g : ∀ j, On l j → x j = V j
theorem JV.next {V : Nat → Value} {w0 : World} {l : Array Bool} {W : World} {x : Nat → Value} (q : JV V w0 l W x) (i : Nat) (W' : World) (hb : Below W.heap.size W W') (v : Value) (hv : v = V i) : JV V w0 (l.setIfInBounds i true) W' (updV x i v) := by
  refine ⟨q.bel.trans (hb.mono q.bel.size), fun j hj => ?_⟩
  unfold updV
  split
  · rename_i e; rw [e]; exact hv
  · rename_i e; exact q.g j (hj.of_set (Ne.symm e))
theorem JV.start (V : Nat → Value) (w0 : World) (N : Nat) (W : World) (h : Below w0.heap.size w0 W) (x : Nat → Value) : JV V w0 (Array.replicate N false) W x := ⟨h, fun _ hj => absurd hj (On.none _ _)⟩
end Go.Proofs.YtjccjlhnjihfjaaDoor

/-! A region that draws its order, reads and calls: each operation has one value, whatever the order. No program in sight. -/
namespace Go.Proofs.YtjccjlhnjihfjaaDoor
open Go Go.RowKit

/-- The slots of a list, from a number on, filled. -/
def putsV (a : Act) : List Nat → Nat → (Nat → Value) → Act
  | [], _, _ => a
  | d :: ds, k, x => putsV (a.put (some d) (x k)) ds (k + 1) x
theorem put_comm (a : Act) (d e : Nat) (u v : Value) (h : d ≠ e) : (a.put (some d) u).put (some e) v = (a.put (some e) v).put (some d) u := by
  simp only [Act.put]
  rw [Array.setIfInBounds_comm _ _ h]
theorem put_again (a : Act) (d : Nat) (u v : Value) : (a.put (some d) u).put (some d) v = a.put (some d) v := by
  simp only [Act.put]
  rw [Array.setIfInBounds_setIfInBounds]
theorem puts_comm (d : Nat) (v : Value) : ∀ (ds : List Nat) (a : Act) (k : Nat) (x : Nat → Value), d ∉ ds → (putsV a ds k x).put (some d) v = putsV (a.put (some d) v) ds k x
  | [], _, _, _, _ => rfl
  | e :: ds, a, k, x, h => by
    simp only [List.mem_cons, not_or] at h
    rw [putsV, puts_comm d v ds _ _ _ h.2, putsV, put_comm _ _ _ _ _ (Ne.symm h.1)]
theorem puts_congr : ∀ (ds : List Nat) (a : Act) (k : Nat) (x y : Nat → Value), (∀ j, k ≤ j → x j = y j) → putsV a ds k x = putsV a ds k y
  | [], _, _, _, _, _ => rfl
  | e :: ds, a, k, x, y, h => by
    rw [putsV, putsV, h k (Nat.le_refl _), puts_congr ds _ _ x y (fun j hj => h j (by omega))]
theorem puts_put : ∀ (ds : List Nat) (a : Act) (k i d : Nat) (x : Nat → Value) (v : Value), ds.Nodup → ds[i]? = some d → (putsV a ds k x).put (some d) v = putsV a ds k (updV x (k + i) v)
  | [], _, _, _, _, _, _, _, h => by simp at h
  | e :: ds, a, k, 0, d, x, v, hn, h => by
    simp only [List.getElem?_cons_zero, Option.some.injEq] at h
    subst h
    rw [List.nodup_cons] at hn
    rw [putsV, puts_comm _ _ _ _ _ _ hn.1, put_again, putsV]
    have e1 : updV x (k + 0) v k = v := by unfold updV; rw [if_pos (Nat.add_zero k).symm]
    rw [e1]
    exact puts_congr _ _ _ _ _ fun j hj => by unfold updV; rw [if_neg (by omega)]
  | e :: ds, a, k, i + 1, d, x, v, hn, h => by
    rw [List.nodup_cons] at hn
    rw [List.getElem?_cons_succ] at h
    rw [putsV, puts_put ds _ _ i d x v hn.2 h, putsV]
    have e1 : updV x (k + (i + 1)) v k = x k := by unfold updV; rw [if_neg (by omega)]
    rw [e1, show k + 1 + i = k + (i + 1) by omega]

section
variable {F : Fence} {n : Nat} {P : Program} {ops : Array Oper} {Q : Exit → Act → World → Prop} {md : Region.Mode}
end
end Go.Proofs.YtjccjlhnjihfjaaDoor

/-! A region that draws its order, reads and calls, inside a round: its slots may hold anything. No program in sight. -/
namespace Go.Proofs.YtjccjlhnjihfjaaDoor
open Go Go.RowKit

theorem put_self (a : Act) (d : Nat) : a.put (some d) (a.tmps.getD d undef) = a := by
  simp only [Act.put]
  congr 1
  apply Array.ext_getElem?
  intro i
  rw [Array.getElem?_setIfInBounds, Array.getD_eq_getD_getElem?]
  by_cases h : d = i
  · subst h
    rw [if_pos rfl]
    by_cases h2 : d < a.tmps.size
    · rw [if_pos h2, Array.getElem?_eq_getElem h2]
      rfl
    · rw [if_neg h2, Array.getElem?_eq_none (by omega)]
  · rw [if_neg h]
theorem puts_start (a : Act) : ∀ (ds : List Nat) (k : Nat), putsV a ds k (fun j => a.tmps.getD (ds.getD (j - k) 0) undef) = a
  | [], _ => rfl
  | d :: ds, k => by
    rw [putsV]
    simp only [Nat.sub_self, List.getD_cons_zero]
    rw [put_self]
    refine (puts_congr ds a (k + 1) _ _ fun j hj => ?_).trans (puts_start a ds (k + 1))
    rw [show j - k = (j - (k + 1)) + 1 by omega, List.getD_cons_succ]

section
variable {F : Fence} {n : Nat} {P : Program} {ops : Array Oper} {Q : Exit → Act → World → Prop} {md : Region.Mode}
theorem anyIn_vals2 {a0 : Act} {w0 W0 : World} (V : Nat → Value) (ds : List Nat) (dep : Nat → List Nat) (hd : edgesB md ops dep = true) (hlen : ds.length = ops.size) (hnd : ds.Nodup)
    (hW : Below w0.heap.size w0 W0)
    (hstep : ∀ (x : Nat → Value) (W : World) (i d : Nat), Below w0.heap.size w0 W → ds[i]? = some d → (∀ j ∈ dep i, x j = V j) → wpOpIn F n P ops Q i (fun a' W' => a' = (putsV a0 ds 0 x).put (some d) (V i) ∧ Below W.heap.size W W') (putsV a0 ds 0 x) W)
    (hdone : ∀ W, Below w0.heap.size w0 W → Q .normal (putsV a0 ds 0 V) W) : wpAnyIn F n P md ops Q ops.size (Array.replicate ops.size false) a0 W0 := by
  refine anyIn_inv2 (Inv := fun l a W => ∃ x : Nat → Value, a = putsV a0 ds 0 x ∧ JV V w0 l W x) dep ops.size rfl hd ?_ ?_ _ _ _ _ (by simp) (by simp) ⟨_, (puts_start a0 ds 0).symm, JV.start _ _ _ _ hW _⟩
  · rintro l a W i _ ⟨x, rfl, hJ⟩ hi _ hdep
    have hi' : i < ds.length := by omega
    have hdi : ds[i]? = some ds[i] := List.getElem?_eq_getElem hi'
    refine wpOpIn_mono ?_ (hstep x W i ds[i] hJ.bel hdi (fun j hj => hJ.g j (hdep j hj)))
    rintro a' W' ⟨rfl, hb⟩
    refine ⟨updV x i (V i), ?_, hJ.next i W' hb _ rfl⟩
    rw [puts_put ds a0 0 i _ x _ hnd hdi, Nat.zero_add]
  · rintro l a W ⟨x, rfl, hJ⟩ hon
    have e : putsV a0 ds 0 x = putsV a0 ds 0 V := by
      have key : ∀ (ds' : List Nat) (b : Act) (k : Nat), k + ds'.length = ops.size → putsV b ds' k x = putsV b ds' k V := by
        intro ds'
        induction ds' with
        | nil => intro _ _ _; rfl
        | cons d ds' ih =>
          intro b k hk
          simp only [List.length_cons] at hk
          rw [putsV, putsV, hJ.g k (hon k (by omega)), ih _ _ (by omega)]
      exact key ds a0 0 (by omega)
    rw [e]
    exact hdone W hJ.bel
end
end Go.Proofs.YtjccjlhnjihfjaaDoor

/-! A region that draws its order, in which calls hand a row of the call's own from one to the next, and all else only reads. No program in sight. -/
namespace Go.Proofs.YtjccjlhnjihfjaaDoor
open Go Go.RowKit

section
variable {F : Fence} {n : Nat} {P : Program} {ops : Array Oper} {Q : Exit → Act → World → Prop} {md : Region.Mode}
end
end Go.Proofs.YtjccjlhnjihfjaaDoor
