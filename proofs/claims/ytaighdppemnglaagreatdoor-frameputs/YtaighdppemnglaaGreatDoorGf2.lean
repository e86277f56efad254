/-
  Out of AeInv, AeVals, AeVals2, FrChain, FrSeq, FrGen, FrTwo, ShaPlain, ShaSched, ShaFurther.
-/
import Derived.Test.YtaighdppemnglaaGreatDoorGf1

/-! A region that draws its order, by what holds at every state on the way, of any number of operations: what is asked of its order is read off its edges. No program in sight. -/
namespace Go.Proofs.YtaighdppemnglaaGreatDoor
open Go Go.RowKit

/-- Values by their numbers, one of them another. -/
def updV (x : Nat → Value) (i : Nat) (v : Value) : Nat → Value := fun j => if j = i then v else x j
theorem updV_self {x : Nat → Value} {i : Nat} {v : Value} (h : x i = v) : x = updV x i v := by
  funext j
  unfold updV
  split
  · rename_i e; rw [e, h]
  · rfl

section
variable {F : Fence} {n : Nat} {P : Program} {ops : Array Oper} {Q : Exit → Act → World → Prop} {md : Region.Mode}
/-- What an operation is said to wait for is an edge that binds; and each edge that binds goes back. -/
def edgesB (md : Region.Mode) (ops : Array Oper) (dep : Nat → List Nat) : Bool :=
  (List.range ops.size).all fun i => match ops[i]? with
    | none => false
    | some o => ((dep i).all fun j => o.after.toList.any fun e => decide (e.on = j) && Region.binds md e) && o.after.toList.all fun e => !Region.binds md e || decide (e.on < i)

theorem anyIn_inv2 {Inv : Array Bool → Act → World → Prop} (dep : Nat → List Nat) (N : Nat) (hN : ops.size = N) (hd : edgesB md ops dep = true)
    (hstep : ∀ l a w i, l.size = N → Inv l a w → i < N → ¬ On l i → (∀ j ∈ dep i, On l j) → wpOpIn F n P ops Q i (Inv (l.setIfInBounds i true)) a w)
    (hdone : ∀ l a w, Inv l a w → (∀ i, i < N → On l i) → Q .normal a w) :
    ∀ (fuel : Nat) (l : Array Bool) (a : Act) (w : World), l.size = N → l.toList.count false ≤ fuel → Inv l a w → wpAnyIn F n P md ops Q fuel l a w := by
  have hall : ∀ i, i < N → ∃ o, ops[i]? = some o ∧ (∀ j ∈ dep i, ∃ e ∈ o.after.toList, e.on = j ∧ Region.binds md e = true) ∧ ∀ e ∈ o.after.toList, Region.binds md e = true → e.on < i := by
    intro i hi
    have h := List.all_eq_true.1 hd i (by rw [List.mem_range, hN]; exact hi)
    cases ho : ops[i]? with
    | none => simp [ho] at h
    | some o =>
      simp only [ho, Bool.and_eq_true] at h
      refine ⟨o, rfl, fun j hj => ?_, fun e he hb => ?_⟩
      · obtain ⟨e, he, h1⟩ := List.any_eq_true.1 (List.all_eq_true.1 h.1 j hj)
        simp only [Bool.and_eq_true, decide_eq_true_eq] at h1
        exact ⟨e, he, h1.1, h1.2⟩
      · have h1 := List.all_eq_true.1 h.2 e he
        rw [hb] at h1
        simpa using h1
  have key : ∀ l : Array Bool, l.size = N → (∀ i ∈ Region.ready md ops l, i < N ∧ l.getD i false = false ∧ ∀ j ∈ dep i, On l j) ∧ (Region.ready md ops l = [] → ∀ i, i < N → On l i) := by
    intro l hl
    refine ⟨fun i hi => ?_, fun h0 => ?_⟩
    · unfold Region.ready at hi
      rw [List.mem_filter, List.mem_range, hN] at hi
      obtain ⟨h1, h2⟩ := hi
      obtain ⟨o, ho, hdep, _⟩ := hall i h1
      simp only [ho, Option.map_some, Option.getD_some, Bool.and_eq_true, Bool.not_eq_true'] at h2
      have h3 : l.getD i false = false := by
        have := h2.1
        rw [Array.getD_eq_getD_getElem?, Array.getElem?_eq_getElem (by omega)] at this ⊢
        simpa using this
      refine ⟨h1, h3, fun j hj => ?_⟩
      obtain ⟨e, he, rfl, hb⟩ := hdep j hj
      have h4 := Array.all_eq_true'.1 h2.2 e (by simpa using he)
      rw [hb] at h4
      unfold On
      simpa using h4
    · intro i
      induction i using Nat.strongRecOn with
      | _ i ih =>
        intro hi
        obtain ⟨o, ho, _, hback⟩ := hall i hi
        cases hc : l.getD i false with
        | true => exact hc
        | false =>
          exfalso
          have hm : i ∈ Region.ready md ops l := by
            unfold Region.ready
            rw [List.mem_filter, List.mem_range, hN]
            refine ⟨hi, ?_⟩
            simp only [ho, Option.map_some, Option.getD_some, Bool.and_eq_true, Bool.not_eq_true']
            refine ⟨?_, Array.all_eq_true'.2 fun e he => ?_⟩
            · rw [Array.getD_eq_getD_getElem?, Array.getElem?_eq_getElem (by omega)] at hc ⊢
              simpa using hc
            · cases hb : Region.binds md e with
              | false => rfl
              | true =>
                have h1 := hback e (by simpa using he) hb
                have h2 := ih e.on h1 (by omega)
                unfold On at h2
                simpa using h2
          rw [h0] at hm
          cases hm
  intro fuel
  induction fuel with
  | zero =>
    intro l a w hl hc hI
    have h0 : Region.ready md ops l = [] := by
      cases hr : Region.ready md ops l with
      | nil => rfl
      | cons i r =>
        exfalso
        have h1 := (key l hl).1 i (by rw [hr]; simp)
        have h2 := count_set l i (by omega) h1.2.1
        omega
    exact ⟨h0, hdone l a w hI ((key l hl).2 h0)⟩
  | succ fuel ih =>
    intro l a w hl hc hI
    refine ⟨fun h0 => hdone l a w hI ((key l hl).2 h0), fun i hi => ?_⟩
    have h1 := (key l hl).1 i hi
    have h2 := count_set l i (by omega) h1.2.1
    exact wpOpIn_mono (fun a' w' hI' => ih _ a' w' (by rw [Array.size_setIfInBounds]; exact hl) (by omega) hI') (hstep l a w i hl hI h1.1 (by unfold On; rw [h1.2.1]; simp) h1.2.2)
end
/-- A region that reads and calls: each operation that is done has brought its value about. -/
structure JV (V : Nat → Value) (w0 : World) (l : Array Bool) (W : World) (x : Nat → Value) : Prop where
  bel : Below w0.heap.size w0 W
  g : ∀ j, On l j → x j = V j
theorem JV.next {V : Nat → Value} {w0 : World} {l : Array Bool} {W : World} {x : Nat → Value} (q : JV V w0 l W x) (i : Nat) (W' : World) (hb : Below W.heap.size W W') (v : Value) (hv : v = V i) : JV V w0 (l.setIfInBounds i true) W' (updV x i v) := by
  refine ⟨q.bel.trans (hb.mono q.bel.size), fun j hj => ?_⟩
  unfold updV
  split
  · rename_i e; rw [e]; exact hv
  · rename_i e; exact q.g j (hj.of_set (Ne.symm e))
theorem JV.start (V : Nat → Value) (w0 : World) (N : Nat) (W : World) (h : Below w0.heap.size w0 W) (x : Nat → Value) : JV V w0 (Array.replicate N false) W x := ⟨h, fun _ hj => absurd hj (On.none _ _)⟩
end Go.Proofs.YtaighdppemnglaaGreatDoor

/-! A region that draws its order, reads and calls: each operation has one value, whatever the order. No program in sight. -/
namespace Go.Proofs.YtaighdppemnglaaGreatDoor
open Go Go.RowKit

/-- The slots of a list, from a number on, filled. -/
def putsV (a : Act) : List Nat → Nat → (Nat → Value) → Act
  | [], _, _ => a
  | d :: ds, k, x => putsV (a.put (some d) (x k)) ds (k + 1) x
theorem put_comm (a : Act) (d e : Nat) (u v : Value) (h : d ≠ e) : (a.put (some d) u).put (some e) v = (a.put (some e) v).put (some d) u := by
  simp only [Act.put]
  rw [Array.setIfInBounds_comm _ _ h]
theorem put_again (a : Act) (d : Nat) (u v : Value) : (a.put (some d) u).put (some d) v = a.put (some d) v := by
  simp only [Act.put]
  rw [Array.setIfInBounds_setIfInBounds]
theorem puts_comm (d : Nat) (v : Value) : ∀ (ds : List Nat) (a : Act) (k : Nat) (x : Nat → Value), d ∉ ds → (putsV a ds k x).put (some d) v = putsV (a.put (some d) v) ds k x
  | [], _, _, _, _ => rfl
  | e :: ds, a, k, x, h => by
    simp only [List.mem_cons, not_or] at h
    rw [putsV, puts_comm d v ds _ _ _ h.2, putsV, put_comm _ _ _ _ _ (Ne.symm h.1)]
theorem puts_congr : ∀ (ds : List Nat) (a : Act) (k : Nat) (x y : Nat → Value), (∀ j, k ≤ j → x j = y j) → putsV a ds k x = putsV a ds k y
  | [], _, _, _, _, _ => rfl
  | e :: ds, a, k, x, y, h => by
    rw [putsV, putsV, h k (Nat.le_refl _), puts_congr ds _ _ x y (fun j hj => h j (by omega))]
theorem puts_put : ∀ (ds : List Nat) (a : Act) (k i d : Nat) (x : Nat → Value) (v : Value), ds.Nodup → ds[i]? = some d → (putsV a ds k x).put (some d) v = putsV a ds k (updV x (k + i) v)
  | [], _, _, _, _, _, _, _, h => by simp at h
  | e :: ds, a, k, 0, d, x, v, hn, h => by
    simp only [List.getElem?_cons_zero, Option.some.injEq] at h
    subst h
    rw [List.nodup_cons] at hn
    rw [putsV, puts_comm _ _ _ _ _ _ hn.1, put_again, putsV]
    have e1 : updV x (k + 0) v k = v := by unfold updV; rw [if_pos (Nat.add_zero k).symm]
    rw [e1]
    exact puts_congr _ _ _ _ _ fun j hj => by unfold updV; rw [if_neg (by omega)]
  | e :: ds, a, k, i + 1, d, x, v, hn, h => by
    rw [List.nodup_cons] at hn
    rw [List.getElem?_cons_succ] at h
    rw [putsV, puts_put ds _ _ i d x v hn.2 h, putsV]
    have e1 : updV x (k + (i + 1)) v k = x k := by unfold updV; rw [if_neg (by omega)]
    rw [e1, show k + 1 + i = k + (i + 1) by omega]

section
variable {F : Fence} {n : Nat} {P : Program} {ops : Array Oper} {Q : Exit → Act → World → Prop} {md : Region.Mode}
theorem anyIn_vals {a0 : Act} {w0 W0 : World} (V : Nat → Value) (ds : List Nat) (dep : Nat → List Nat) (hd : edgesB md ops dep = true) (hlen : ds.length = ops.size) (hnd : ds.Nodup)
    (h0 : putsV a0 ds 0 (fun _ => undef) = a0) (hW : Below w0.heap.size w0 W0)
    (hstep : ∀ (x : Nat → Value) (W : World) (i d : Nat), Below w0.heap.size w0 W → ds[i]? = some d → (∀ j ∈ dep i, x j = V j) → wpOpIn F n P ops Q i (fun a' W' => a' = (putsV a0 ds 0 x).put (some d) (V i) ∧ Below W.heap.size W W') (putsV a0 ds 0 x) W)
    (hdone : ∀ W, Below w0.heap.size w0 W → Q .normal (putsV a0 ds 0 V) W) : wpAnyIn F n P md ops Q ops.size (Array.replicate ops.size false) a0 W0 := by
  refine anyIn_inv2 (Inv := fun l a W => ∃ x : Nat → Value, a = putsV a0 ds 0 x ∧ JV V w0 l W x) dep ops.size rfl hd ?_ ?_ _ _ _ _ (by simp) (by simp) ⟨fun _ => undef, h0.symm, JV.start _ _ _ _ hW _⟩
  · rintro l a W i _ ⟨x, rfl, hJ⟩ hi _ hdep
    have hi' : i < ds.length := by omega
    have hdi : ds[i]? = some ds[i] := List.getElem?_eq_getElem hi'
    refine wpOpIn_mono ?_ (hstep x W i ds[i] hJ.bel hdi (fun j hj => hJ.g j (hdep j hj)))
    rintro a' W' ⟨rfl, hb⟩
    refine ⟨updV x i (V i), ?_, hJ.next i W' hb _ rfl⟩
    rw [puts_put ds a0 0 i _ x _ hnd hdi, Nat.zero_add]
  · rintro l a W ⟨x, rfl, hJ⟩ hon
    have e : putsV a0 ds 0 x = putsV a0 ds 0 V := by
      have key : ∀ (ds' : List Nat) (b : Act) (k : Nat), k + ds'.length = ops.size → putsV b ds' k x = putsV b ds' k V := by
        intro ds'
        induction ds' with
        | nil => intro _ _ _; rfl
        | cons d ds' ih =>
          intro b k hk
          simp only [List.length_cons] at hk
          rw [putsV, putsV, hJ.g k (hon k (by omega)), ih _ _ (by omega)]
      exact key ds a0 0 (by omega)
    rw [e]
    exact hdone W hJ.bel
/-- The same, with what each operation brings about told of its value and the world. -/
theorem anyIn_gen {a0 : Act} {w0 W0 : World} (G : Nat → World → Value → Prop) (hmono : ∀ j W W' v, Below W.heap.size W W' → G j W v → G j W' v) (ds : List Nat) (dep : Nat → List Nat) (hd : edgesB md ops dep = true) (hlen : ds.length = ops.size) (hnd : ds.Nodup)
    (h0 : putsV a0 ds 0 (fun _ => undef) = a0) (hW : Below w0.heap.size w0 W0)
    (hstep : ∀ (x : Nat → Value) (W : World) (i d : Nat), Below w0.heap.size w0 W → ds[i]? = some d → (∀ j ∈ dep i, G j W (x j)) → wpOpIn F n P ops Q i (fun a' W' => ∃ v, a' = (putsV a0 ds 0 x).put (some d) v ∧ Below W.heap.size W W' ∧ G i W' v) (putsV a0 ds 0 x) W)
    (hdone : ∀ x W, Below w0.heap.size w0 W → (∀ j, j < ds.length → G j W (x j)) → Q .normal (putsV a0 ds 0 x) W) : wpAnyIn F n P md ops Q ops.size (Array.replicate ops.size false) a0 W0 := by
  refine anyIn_inv2 (Inv := fun l a W => ∃ x : Nat → Value, a = putsV a0 ds 0 x ∧ Below w0.heap.size w0 W ∧ ∀ j, On l j → G j W (x j)) dep ops.size rfl hd ?_ ?_ _ _ _ _ (by simp) (by simp) ⟨fun _ => undef, h0.symm, hW, fun _ hj => absurd hj (On.none _ _)⟩
  · rintro l a W i _ ⟨x, rfl, h2, h3⟩ hi _ hdep
    have hlt : i < ds.length := by omega
    have hdi : ds[i]? = some ds[i] := List.getElem?_eq_getElem hlt
    refine wpOpIn_mono ?_ (hstep x W i ds[i] h2 hdi (fun j hj => h3 j (hdep j hj)))
    rintro a' W' ⟨v, rfl, hb, hv⟩
    refine ⟨updV x i v, ?_, h2.trans (hb.mono h2.size), fun j hj => ?_⟩
    · rw [puts_put ds a0 0 i _ x _ hnd hdi, Nat.zero_add]
    · unfold updV
      split
      · rename_i e; rw [e]; exact hv
      · rename_i e; exact hmono _ _ _ _ hb (h3 j (hj.of_set (Ne.symm e)))
  · rintro l a W ⟨x, rfl, h2, h3⟩ hon
    exact hdone x W h2 (fun j hj => h3 j (hon j (by omega)))
/-- The same, with what each operation brings about told of its value and the world; the last operation, which waits for all others, stores. -/
theorem anyIn_store {a0 : Act} {w0 W0 : World} (G : Nat → World → Value → Prop) (hmono : ∀ j W W' v, Below W.heap.size W W' → G j W v → G j W' v) (ds : List Nat) (dep : Nat → List Nat) (hd : edgesB md ops dep = true) (hlen : ds.length + 1 = ops.size) (hnd : ds.Nodup)
    (hall : ∀ j, j < ds.length → j ∈ dep ds.length)
    (h0 : putsV a0 ds 0 (fun _ => undef) = a0) (hW : Below w0.heap.size w0 W0) (R : (Nat → Value) → World → Prop)
    (hstep : ∀ (x : Nat → Value) (W : World) (i d : Nat), Below w0.heap.size w0 W → ds[i]? = some d → (∀ j ∈ dep i, G j W (x j)) → wpOpIn F n P ops Q i (fun a' W' => ∃ v, a' = (putsV a0 ds 0 x).put (some d) v ∧ Below W.heap.size W W' ∧ G i W' v) (putsV a0 ds 0 x) W)
    (hlast : ∀ (x : Nat → Value) (W : World), Below w0.heap.size w0 W → (∀ j, j < ds.length → G j W (x j)) → wpOpIn F n P ops Q ds.length (fun a' W' => a' = putsV a0 ds 0 x ∧ R x W') (putsV a0 ds 0 x) W)
    (hdone : ∀ x W, R x W → Q .normal (putsV a0 ds 0 x) W) : wpAnyIn F n P md ops Q ops.size (Array.replicate ops.size false) a0 W0 := by
  refine anyIn_inv2 (Inv := fun l a W => ∃ x : Nat → Value, a = putsV a0 ds 0 x ∧ ((¬ On l ds.length ∧ Below w0.heap.size w0 W ∧ ∀ j, On l j → G j W (x j)) ∨ ((∀ j, j < ds.length → On l j) ∧ On l ds.length ∧ R x W))) dep ops.size rfl hd ?_ ?_ _ _ _ _ (by simp) (by simp) ⟨fun _ => undef, h0.symm, .inl ⟨On.none _ _, hW, fun _ hj => absurd hj (On.none _ _)⟩⟩
  · rintro l a W i hl ⟨x, rfl, hJ⟩ hi hno hdep
    rcases hJ with ⟨h1, h2, h3⟩ | ⟨h1, h2, _⟩
    · by_cases hlt : i < ds.length
      · have hdi : ds[i]? = some ds[i] := List.getElem?_eq_getElem hlt
        refine wpOpIn_mono ?_ (hstep x W i ds[i] h2 hdi (fun j hj => h3 j (hdep j hj)))
        rintro a' W' ⟨v, rfl, hb, hv⟩
        refine ⟨updV x i v, ?_, .inl ⟨fun e => h1 (e.of_set (by omega)), h2.trans (hb.mono h2.size), fun j hj => ?_⟩⟩
        · rw [puts_put ds a0 0 i _ x _ hnd hdi, Nat.zero_add]
        · unfold updV
          split
          · rename_i e; rw [e]; exact hv
          · rename_i e; exact hmono _ _ _ _ hb (h3 j (hj.of_set (Ne.symm e)))
      · obtain rfl : i = ds.length := by omega
        have hon : ∀ j, j < ds.length → On l j := fun j hj => hdep j (hall j hj)
        refine wpOpIn_mono ?_ (hlast x W h2 (fun j hj => h3 j (hon j hj)))
        rintro a' W' ⟨rfl, hR⟩
        exact ⟨x, rfl, .inr ⟨fun j hj => (hon j hj).set, On.self (by omega), hR⟩⟩
    · exfalso
      by_cases hlt : i < ds.length
      · exact hno (h1 i hlt)
      · obtain rfl : i = ds.length := by omega
        exact hno h2
  · rintro l a W ⟨x, rfl, hJ⟩ hon
    rcases hJ with ⟨h1, _⟩ | ⟨_, _, hR⟩
    · exact absurd (hon ds.length (by omega)) h1
    · exact hdone x W hR
end
end Go.Proofs.YtaighdppemnglaaGreatDoor

/-! A region that draws its order, reads and calls, inside a round: its slots may hold anything. No program in sight. -/
namespace Go.Proofs.YtaighdppemnglaaGreatDoor
open Go Go.RowKit

theorem put_self (a : Act) (d : Nat) : a.put (some d) (a.tmps.getD d undef) = a := by
  simp only [Act.put]
  congr 1
  apply Array.ext_getElem?
  intro i
  rw [Array.getElem?_setIfInBounds, Array.getD_eq_getD_getElem?]
  by_cases h : d = i
  · subst h
    rw [if_pos rfl]
    by_cases h2 : d < a.tmps.size
    · rw [if_pos h2, Array.getElem?_eq_getElem h2]
      rfl
    · rw [if_neg h2, Array.getElem?_eq_none (by omega)]
  · rw [if_neg h]
theorem puts_start (a : Act) : ∀ (ds : List Nat) (k : Nat), putsV a ds k (fun j => a.tmps.getD (ds.getD (j - k) 0) undef) = a
  | [], _ => rfl
  | d :: ds, k => by
    rw [putsV]
    simp only [Nat.sub_self, List.getD_cons_zero]
    rw [put_self]
    refine (puts_congr ds a (k + 1) _ _ fun j hj => ?_).trans (puts_start a ds (k + 1))
    rw [show j - k = (j - (k + 1)) + 1 by omega, List.getD_cons_succ]

section
variable {F : Fence} {n : Nat} {P : Program} {ops : Array Oper} {Q : Exit → Act → World → Prop} {md : Region.Mode}
theorem anyIn_vals2 {a0 : Act} {w0 W0 : World} (V : Nat → Value) (ds : List Nat) (dep : Nat → List Nat) (hd : edgesB md ops dep = true) (hlen : ds.length = ops.size) (hnd : ds.Nodup)
    (hW : Below w0.heap.size w0 W0)
    (hstep : ∀ (x : Nat → Value) (W : World) (i d : Nat), Below w0.heap.size w0 W → ds[i]? = some d → (∀ j ∈ dep i, x j = V j) → wpOpIn F n P ops Q i (fun a' W' => a' = (putsV a0 ds 0 x).put (some d) (V i) ∧ Below W.heap.size W W') (putsV a0 ds 0 x) W)
    (hdone : ∀ W, Below w0.heap.size w0 W → Q .normal (putsV a0 ds 0 V) W) : wpAnyIn F n P md ops Q ops.size (Array.replicate ops.size false) a0 W0 := by
  refine anyIn_inv2 (Inv := fun l a W => ∃ x : Nat → Value, a = putsV a0 ds 0 x ∧ JV V w0 l W x) dep ops.size rfl hd ?_ ?_ _ _ _ _ (by simp) (by simp) ⟨_, (puts_start a0 ds 0).symm, JV.start _ _ _ _ hW _⟩
  · rintro l a W i _ ⟨x, rfl, hJ⟩ hi _ hdep
    have hi' : i < ds.length := by omega
    have hdi : ds[i]? = some ds[i] := List.getElem?_eq_getElem hi'
    refine wpOpIn_mono ?_ (hstep x W i ds[i] hJ.bel hdi (fun j hj => hJ.g j (hdep j hj)))
    rintro a' W' ⟨rfl, hb⟩
    refine ⟨updV x i (V i), ?_, hJ.next i W' hb _ rfl⟩
    rw [puts_put ds a0 0 i _ x _ hnd hdi, Nat.zero_add]
  · rintro l a W ⟨x, rfl, hJ⟩ hon
    have e : putsV a0 ds 0 x = putsV a0 ds 0 V := by
      have key : ∀ (ds' : List Nat) (b : Act) (k : Nat), k + ds'.length = ops.size → putsV b ds' k x = putsV b ds' k V := by
        intro ds'
        induction ds' with
        | nil => intro _ _ _; rfl
        | cons d ds' ih =>
          intro b k hk
          simp only [List.length_cons] at hk
          rw [putsV, putsV, hJ.g k (hon k (by omega)), ih _ _ (by omega)]
      exact key ds a0 0 (by omega)
    rw [e]
    exact hdone W hJ.bel
end
end Go.Proofs.YtaighdppemnglaaGreatDoor

/-! A region that draws its order, in which calls hand a row of the call's own from one to the next, and all else only reads. No program in sight. -/
namespace Go.Proofs.YtaighdppemnglaaGreatDoor
open Go Go.RowKit

section
variable {F : Fence} {n : Nat} {P : Program} {ops : Array Oper} {Q : Exit → Act → World → Prop} {md : Region.Mode}
/-- What lies in the slots ahead of the region. -/
def slot0 (a0 : Act) (ds : List Nat) (j : Nat) : Value := a0.tmps.getD (ds.getD j 0) undef
theorem anyIn_chain {a0 : Act} {w0 W0 : World} (K : World → World → Prop) (hK : ∀ a b c, K a b → K b c → K a c) (V : Nat → Value) (R : Nat → World → Value → Prop) (v0 : Value) (ch ds : List Nat) (dep : Nat → List Nat) (hd : edgesB md ops dep = true) (hlen : ds.length = ops.size) (hnd : ds.Nodup) (hchn : ch.Nodup)
    (hord : ∀ k i j, ch[k]? = some j → ch[k + 1]? = some i → j ∈ dep i)
    (h0 : R 0 W0 v0) (hK0 : K w0 W0)
    (hfix : ∀ (x : Nat → Value) (W : World) (i d : Nat), K w0 W → ds[i]? = some d → i ∉ ch → (∀ j ∈ dep i, j ∉ ch → x j = V j) → (∀ j, i = j ∨ i ∈ dep j → x j = slot0 a0 ds j) → wpOpIn F n P ops Q i (fun a' W' => a' = (putsV a0 ds 0 x).put (some d) (V i) ∧ W' = W) (putsV a0 ds 0 x) W)
    (hcal : ∀ (x : Nat → Value) (W : World) (k i d : Nat) (u : Value), K w0 W → ch[k]? = some i → ds[i]? = some d → (∀ j ∈ dep i, j ∉ ch → x j = V j) → (∀ j, i = j ∨ i ∈ dep j → x j = slot0 a0 ds j) → (k = 0 → u = v0) → (∀ p j, k = p + 1 → ch[p]? = some j → x j = u) → R k W u → wpOpIn F n P ops Q i (fun a' W' => ∃ v', a' = (putsV a0 ds 0 x).put (some d) v' ∧ K W W' ∧ R (k + 1) W' v') (putsV a0 ds 0 x) W)
    (hdone : ∀ (x : Nat → Value) (W : World) (u : Value), K w0 W → (∀ j, j < ops.size → j ∉ ch → x j = V j) → (∀ p j, ch.length = p + 1 → ch[p]? = some j → x j = u) → R ch.length W u → Q .normal (putsV a0 ds 0 x) W)
    (hin : ∀ j ∈ ch, j < ops.size) : wpAnyIn F n P md ops Q ops.size (Array.replicate ops.size false) a0 W0 := by
  refine anyIn_inv2 (Inv := fun l a W => ∃ (x : Nat → Value) (m : Nat) (u : Value), a = putsV a0 ds 0 x ∧ K w0 W ∧ (∀ j, On l j → j ∉ ch → x j = V j) ∧ (∀ j, ¬ On l j → x j = slot0 a0 ds j) ∧ (∀ j, On l j → ∀ i ∈ dep j, On l i) ∧ (∀ k j, ch[k]? = some j → (On l j ↔ k < m)) ∧ m ≤ ch.length ∧ R m W u ∧ (m = 0 → u = v0) ∧ (∀ p j, m = p + 1 → ch[p]? = some j → x j = u)) dep ops.size rfl hd ?_ ?_ _ _ _ _ (by simp) (by simp) ?_
  · rintro l a W i hl ⟨x, m, u, rfl, h1, h2, h3, h4, h5, h6, h7, h8, h9⟩ hi hno hdep
    have hi' : i < ds.length := by omega
    have hdi : ds[i]? = some ds[i] := List.getElem?_eq_getElem hi'
    have hsl : ∀ j, i = j ∨ i ∈ dep j → x j = slot0 a0 ds j := by
      intro j hj
      refine h3 j fun e => ?_
      rcases hj with rfl | hj
      · exact hno e
      · exact hno (h4 j e i hj)
    have hfx : ∀ j ∈ dep i, j ∉ ch → x j = V j := fun j hj hc => h2 j (hdep j hj) hc
    have hon : ∀ j, On (l.setIfInBounds i true) j ↔ j = i ∨ On l j := by
      intro j
      constructor
      · intro h
        by_cases e : j = i
        · exact .inl e
        · exact .inr (h.of_set (Ne.symm e))
      · rintro (rfl | h)
        · exact On.self (by omega)
        · exact h.set
    have hcl : ∀ j, On (l.setIfInBounds i true) j → ∀ i' ∈ dep j, On (l.setIfInBounds i true) i' := by
      intro j hj q hq
      rcases (hon j).1 hj with rfl | hj
      · exact (hdep q hq).set
      · exact (h4 j hj q hq).set
    by_cases hc : i ∈ ch
    · obtain ⟨k, hk, hki⟩ := List.getElem_of_mem hc
      have hk' : ch[k]? = some i := by rw [List.getElem?_eq_getElem hk, hki]
      have hmk : m ≤ k := Nat.le_of_not_lt fun h => hno ((h5 k i hk').2 h)
      have hm : m = k := by
        cases k with
        | zero => omega
        | succ p =>
          have hp : ch[p]? = some ch[p] := List.getElem?_eq_getElem (by omega)
          have := (h5 p _ hp).1 (hdep _ (hord p i _ hp hk'))
          omega
      subst hm
      refine wpOpIn_mono ?_ (hcal x W m i ds[i] u h1 hk' hdi hfx hsl h8 h9 h7)
      rintro a' W' ⟨v', rfl, hKW, hR⟩
      refine ⟨updV x i v', m + 1, v', ?_, hK _ _ _ h1 hKW, ?_, ?_, hcl, ?_, by omega, hR, fun e => by omega, ?_⟩
      · rw [puts_put ds a0 0 i _ x _ hnd hdi, Nat.zero_add]
      · intro j hj hjc
        have hne : j ≠ i := fun e => hjc (e ▸ hc)
        unfold updV
        rw [if_neg hne]
        exact h2 j (((hon j).1 hj).resolve_left hne) hjc
      · intro j hj
        have hne : j ≠ i := fun e => hj ((hon j).2 (.inl e))
        unfold updV
        rw [if_neg hne]
        exact h3 j fun e => hj ((hon j).2 (.inr e))
      · intro k j hkj
        rw [hon j, h5 k j hkj]
        constructor
        · rintro (rfl | h)
          · by_cases hkm : k < m
            · omega
            · by_cases hkm2 : m < k
              · obtain ⟨p1, p2⟩ := List.getElem?_eq_some_iff.1 hkj
                obtain ⟨q1, q2⟩ := List.getElem?_eq_some_iff.1 hk'
                exact absurd (q2.trans p2.symm) (List.pairwise_iff_getElem.1 hchn m k q1 p1 hkm2)
              · omega
          · omega
        · intro h
          by_cases hkm : k = m
          · subst hkm
            rw [hkj] at hk'
            exact .inl (Option.some.inj hk')
          · exact .inr (by omega)
      · intro p j hp hpj
        obtain rfl : m = p := by omega
        rw [hk'] at hpj
        obtain rfl := Option.some.inj hpj
        unfold updV
        rw [if_pos rfl]
    · refine wpOpIn_mono ?_ (hfix x W i ds[i] h1 hdi hc hfx hsl)
      rintro a' W' ⟨rfl, rfl⟩
      refine ⟨updV x i (V i), m, u, ?_, h1, ?_, ?_, hcl, ?_, h6, h7, h8, ?_⟩
      · rw [puts_put ds a0 0 i _ x _ hnd hdi, Nat.zero_add]
      · intro j hj hjc
        unfold updV
        split
        · rename_i e; rw [e]
        · rename_i e; exact h2 j (((hon j).1 hj).resolve_left e) hjc
      · intro j hj
        have hne : j ≠ i := fun e => hj ((hon j).2 (.inl e))
        unfold updV
        rw [if_neg hne]
        exact h3 j fun e => hj ((hon j).2 (.inr e))
      · intro k j hkj
        have hne : j ≠ i := fun e => hc (e ▸ List.mem_of_getElem? hkj)
        rw [hon j, ← h5 k j hkj]
        exact ⟨fun h => h.resolve_left hne, .inr⟩
      · intro p j hp hpj
        have hne : j ≠ i := fun e => hc (e ▸ List.mem_of_getElem? hpj)
        unfold updV
        rw [if_neg hne]
        exact h9 p j hp hpj
  · rintro l a W ⟨x, m, u, rfl, h1, h2, h3, h4, h5, h6, h7, h8, h9⟩ hon
    have hm : m = ch.length := by
      rcases Nat.eq_or_lt_of_le h6 with e | e
      · exact e
      · have hp : ch[m]? = some ch[m] := List.getElem?_eq_getElem e
        have := (h5 m _ hp).1 (hon _ (hin _ (List.getElem_mem e)))
        omega
    subst hm
    exact hdone x W u h1 (fun j hj hjc => h2 j (hon j hj) hjc) h9 h7
  · refine ⟨_, 0, v0, (puts_start a0 ds 0).symm, hK0, fun j hj => absurd hj (On.none _ _), fun j _ => rfl, fun j hj => absurd hj (On.none _ _), fun k j _ => ⟨fun h => absurd h (On.none _ _), fun h => absurd h (Nat.not_lt_zero _)⟩, Nat.zero_le _, h0, fun _ => rfl, fun p j h => by omega⟩
end
end Go.Proofs.YtaighdppemnglaaGreatDoor

/-! A region that draws its order, in which calls come one behind the other and each has one value, and all else has one value, whatever the order. No program in sight. -/
namespace Go.Proofs.YtaighdppemnglaaGreatDoor
open Go Go.RowKit

theorem put_none (a : Act) (v : Value) : a.put none v = a := rfl

section
variable {F : Fence} {n : Nat} {P : Program} {ops : Array Oper} {Q : Exit → Act → World → Prop} {md : Region.Mode}
theorem anyIn_seq {a0 : Act} {W0 : World} (V : Nat → Value) (R : Nat → World → Prop) (ch ds : List Nat) (dep : Nat → List Nat) (hd : edgesB md ops dep = true) (hlen : ds.length = ops.size) (hnd : ds.Nodup) (hchn : ch.Nodup)
    (hord : ∀ k i j, ch[k]? = some j → ch[k + 1]? = some i → j ∈ dep i)
    (hin : ∀ j ∈ ch, j < ops.size)
    (h0 : R 0 W0)
    (hfix : ∀ (x : Nat → Value) (W : World) (m i d : Nat), R m W → ds[i]? = some d → i ∉ ch → (∀ j ∈ dep i, x j = V j) → (∀ k j, ch[k]? = some j → j ∈ dep i → k < m) → (∀ k j, ch[k]? = some j → i ∈ dep j → m ≤ k) → wpOpIn F n P ops Q i (fun a' W' => a' = (putsV a0 ds 0 x).put (some d) (V i) ∧ R m W') (putsV a0 ds 0 x) W)
    (hcal : ∀ (x : Nat → Value) (W : World) (k i d : Nat), R k W → ch[k]? = some i → ds[i]? = some d → (∀ j ∈ dep i, x j = V j) → wpOpIn F n P ops Q i (fun a' W' => a' = (putsV a0 ds 0 x).put (some d) (V i) ∧ R (k + 1) W') (putsV a0 ds 0 x) W)
    (hdone : ∀ W : World, R ch.length W → Q .normal (putsV a0 ds 0 V) W) : wpAnyIn F n P md ops Q ops.size (Array.replicate ops.size false) a0 W0 := by
  refine anyIn_inv2 (Inv := fun l a W => ∃ (x : Nat → Value) (m : Nat), a = putsV a0 ds 0 x ∧ R m W ∧ (∀ j, On l j → x j = V j) ∧ (∀ j, On l j → ∀ i ∈ dep j, On l i) ∧ (∀ k j, ch[k]? = some j → (On l j ↔ k < m)) ∧ m ≤ ch.length) dep ops.size rfl hd ?_ ?_ _ _ _ _ (by simp) (by simp) ?_
  · rintro l a W i hl ⟨x, m, rfl, h1, h2, h4, h5, h6⟩ hi hno hdep
    have hi' : i < ds.length := by omega
    have hdi : ds[i]? = some ds[i] := List.getElem?_eq_getElem hi'
    have hfx : ∀ j ∈ dep i, x j = V j := fun j hj => h2 j (hdep j hj)
    have hon : ∀ j, On (l.setIfInBounds i true) j ↔ j = i ∨ On l j := by
      intro j
      constructor
      · intro h
        by_cases e : j = i
        · exact .inl e
        · exact .inr (h.of_set (Ne.symm e))
      · rintro (rfl | h)
        · exact On.self (by omega)
        · exact h.set
    have hcl : ∀ j, On (l.setIfInBounds i true) j → ∀ i' ∈ dep j, On (l.setIfInBounds i true) i' := by
      intro j hj q hq
      rcases (hon j).1 hj with rfl | hj
      · exact (hdep q hq).set
      · exact (h4 j hj q hq).set
    have hval : ∀ j, On (l.setIfInBounds i true) j → updV x i (V i) j = V j := by
      intro j hj
      unfold updV
      split
      · rename_i e; rw [e]
      · rename_i e; exact h2 j (((hon j).1 hj).resolve_left e)
    by_cases hc : i ∈ ch
    · obtain ⟨k, hk, hki⟩ := List.getElem_of_mem hc
      have hk' : ch[k]? = some i := by rw [List.getElem?_eq_getElem hk, hki]
      have hmk : m ≤ k := Nat.le_of_not_lt fun h => hno ((h5 k i hk').2 h)
      have hm : m = k := by
        cases k with
        | zero => omega
        | succ p =>
          have hp : ch[p]? = some ch[p] := List.getElem?_eq_getElem (by omega)
          have := (h5 p _ hp).1 (hdep _ (hord p i _ hp hk'))
          omega
      subst hm
      refine wpOpIn_mono ?_ (hcal x W m i ds[i] h1 hk' hdi hfx)
      rintro a' W' ⟨rfl, hR⟩
      refine ⟨updV x i (V i), m + 1, ?_, hR, hval, hcl, ?_, by omega⟩
      · rw [puts_put ds a0 0 i _ x _ hnd hdi, Nat.zero_add]
      · intro k j hkj
        rw [hon j, h5 k j hkj]
        constructor
        · rintro (rfl | h)
          · by_cases hkm : k < m
            · omega
            · by_cases hkm2 : m < k
              · obtain ⟨p1, p2⟩ := List.getElem?_eq_some_iff.1 hkj
                obtain ⟨q1, q2⟩ := List.getElem?_eq_some_iff.1 hk'
                exact absurd (q2.trans p2.symm) (List.pairwise_iff_getElem.1 hchn m k q1 p1 hkm2)
              · omega
          · omega
        · intro h
          by_cases hkm : k = m
          · subst hkm
            rw [hkj] at hk'
            exact .inl (Option.some.inj hk')
          · exact .inr (by omega)
    · refine wpOpIn_mono ?_ (hfix x W m i ds[i] h1 hdi hc hfx (fun k j hkj hj => (h5 k j hkj).1 (hdep j hj)) (fun k j hkj hij => Nat.le_of_not_lt fun h => hno (h4 j ((h5 k j hkj).2 h) i hij)))
      rintro a' W' ⟨rfl, hR⟩
      refine ⟨updV x i (V i), m, ?_, hR, hval, hcl, ?_, h6⟩
      · rw [puts_put ds a0 0 i _ x _ hnd hdi, Nat.zero_add]
      · intro k j hkj
        have hne : j ≠ i := fun e => hc (e ▸ List.mem_of_getElem? hkj)
        rw [hon j, ← h5 k j hkj]
        exact ⟨fun h => h.resolve_left hne, .inr⟩
  · rintro l a W ⟨x, m, rfl, h1, h2, h4, h5, h6⟩ hon
    have hm : m = ch.length := by
      rcases Nat.eq_or_lt_of_le h6 with e | e
      · exact e
      · have hp : ch[m]? = some ch[m] := List.getElem?_eq_getElem e
        have := (h5 m _ hp).1 (hon _ (hin _ (List.getElem_mem e)))
        omega
    subst hm
    have e : putsV a0 ds 0 x = putsV a0 ds 0 V := by
      have key : ∀ (ds' : List Nat) (b : Act) (k : Nat), k + ds'.length = ops.size → putsV b ds' k x = putsV b ds' k V := by
        intro ds'
        induction ds' with
        | nil => intro _ _ _; rfl
        | cons d ds' ih =>
          intro b k hk
          simp only [List.length_cons] at hk
          rw [putsV, putsV, h2 k (hon k (by omega)), ih _ _ (by omega)]
      exact key ds a0 0 (by omega)
    rw [e]
    exact hdone W h1
  · exact ⟨_, 0, (puts_start a0 ds 0).symm, h0, fun j hj => absurd hj (On.none _ _), fun j hj => absurd hj (On.none _ _), fun k j _ => ⟨fun h => absurd h (On.none _ _), fun h => absurd h (Nat.not_lt_zero _)⟩, Nat.zero_le _⟩
end
end Go.Proofs.YtaighdppemnglaaGreatDoor

/-! A region that draws its order: each operation brings something about, told of its value and the world; its slots may hold anything. No program in sight. -/
namespace Go.Proofs.YtaighdppemnglaaGreatDoor
open Go Go.RowKit

section
variable {F : Fence} {n : Nat} {P : Program} {ops : Array Oper} {Q : Exit → Act → World → Prop} {md : Region.Mode}
theorem anyIn_gen2 {a0 : Act} {w0 W0 : World} (G : Nat → World → Value → Prop) (hmono : ∀ j W W' v, Below W.heap.size W W' → G j W v → G j W' v) (ds : List Nat) (dep : Nat → List Nat) (hd : edgesB md ops dep = true) (hlen : ds.length = ops.size) (hnd : ds.Nodup)
    (hW : Below w0.heap.size w0 W0)
    (hstep : ∀ (x : Nat → Value) (W : World) (i d : Nat), Below w0.heap.size w0 W → ds[i]? = some d → (∀ j ∈ dep i, G j W (x j)) → wpOpIn F n P ops Q i (fun a' W' => ∃ v, a' = (putsV a0 ds 0 x).put (some d) v ∧ Below W.heap.size W W' ∧ G i W' v) (putsV a0 ds 0 x) W)
    (hdone : ∀ x W, Below w0.heap.size w0 W → (∀ j, j < ds.length → G j W (x j)) → Q .normal (putsV a0 ds 0 x) W) : wpAnyIn F n P md ops Q ops.size (Array.replicate ops.size false) a0 W0 := by
  refine anyIn_inv2 (Inv := fun l a W => ∃ x : Nat → Value, a = putsV a0 ds 0 x ∧ Below w0.heap.size w0 W ∧ ∀ j, On l j → G j W (x j)) dep ops.size rfl hd ?_ ?_ _ _ _ _ (by simp) (by simp) ⟨_, (puts_start a0 ds 0).symm, hW, fun _ hj => absurd hj (On.none _ _)⟩
  · rintro l a W i _ ⟨x, rfl, h2, h3⟩ hi _ hdep
    have hlt : i < ds.length := by omega
    have hdi : ds[i]? = some ds[i] := List.getElem?_eq_getElem hlt
    refine wpOpIn_mono ?_ (hstep x W i ds[i] h2 hdi (fun j hj => h3 j (hdep j hj)))
    rintro a' W' ⟨v, rfl, hb, hv⟩
    refine ⟨updV x i v, ?_, h2.trans (hb.mono h2.size), fun j hj => ?_⟩
    · rw [puts_put ds a0 0 i _ x _ hnd hdi, Nat.zero_add]
    · unfold updV
      split
      · rename_i e; rw [e]; exact hv
      · rename_i e; exact hmono _ _ _ _ hb (h3 j (hj.of_set (Ne.symm e)))
  · rintro l a W ⟨x, rfl, h2, h3⟩ hon
    exact hdone x W h2 (fun j hj => h3 j (hon j (by omega)))
end
end Go.Proofs.YtaighdppemnglaaGreatDoor

/-! A region that draws its order, reads, makes two new variables and fills them. No program in sight. -/
namespace Go.Proofs.YtaighdppemnglaaGreatDoor
open Go Go.RowKit

def ptrV (p : Nat) : Value := .pointer (some ⟨p, 0, none⟩)
theorem ptrV_inj {p q : Nat} (h : ptrV p = ptrV q) : p = q := by
  unfold ptrV at h
  injection h with h
  injection h with h
  injection h
section
variable {F : Fence} {n : Nat} {P : Program} {ops : Array Oper} {Q : Exit → Act → World → Prop} {md : Region.Mode}
theorem anyIn_two {a0 : Act} {w0 W0 : World} (V : Nat → Value) (ds : List Nat) (dep : Nat → List Nat) (ia ib : Nat) (T : TypeId) (zc cA cB : Array Value) (hd : edgesB md ops dep = true) (hlen : ds.length + 2 = ops.size) (hnd : ds.Nodup)
    (hia : ia < ds.length) (hib : ib < ds.length) (hab : ia ≠ ib) (hsa : ia ∈ dep ds.length) (hsb : ib ∈ dep (ds.length + 1)) (hno2 : ds.length ∉ dep (ds.length + 1))
    (hW : Below w0.heap.size w0 W0)
    (hstep : ∀ (x : Nat → Value) (W : World) (i d : Nat), Below w0.heap.size w0 W → ds[i]? = some d → i ≠ ia → i ≠ ib → (∀ j ∈ dep i, j ≠ ia → j ≠ ib → x j = V j) → wpOpIn F n P ops Q i (fun a' W' => a' = (putsV a0 ds 0 x).put (some d) (V i) ∧ W' = W) (putsV a0 ds 0 x) W)
    (hall : ∀ (x : Nat → Value) (W : World) (i d : Nat), ds[i]? = some d → (i = ia ∨ i = ib) → wpOpIn F n P ops Q i (fun a' W' => a' = (putsV a0 ds 0 x).put (some d) (ptrV W.heap.size) ∧ W' = W.alloc (.cells zc T)) (putsV a0 ds 0 x) W)
    (hA : ∀ (x : Nat → Value) (W : World) (p : Nat), x ia = ptrV p → Row W p T zc → (∀ j ∈ dep ds.length, j ≠ ia → j ≠ ib → x j = V j) → wpOpIn F n P ops Q ds.length (fun a' W' => a' = putsV a0 ds 0 x ∧ W' = W.setRow p cA) (putsV a0 ds 0 x) W)
    (hB : ∀ (x : Nat → Value) (W : World) (p : Nat), x ib = ptrV p → Row W p T zc → (∀ j ∈ dep (ds.length + 1), j ≠ ia → j ≠ ib → x j = V j) → wpOpIn F n P ops Q (ds.length + 1) (fun a' W' => a' = putsV a0 ds 0 x ∧ W' = W.setRow p cB) (putsV a0 ds 0 x) W)
    (hdone : ∀ (x : Nat → Value) (W : World) (p q : Nat), Below w0.heap.size w0 W → (∀ j, j < ds.length → j ≠ ia → j ≠ ib → x j = V j) → x ia = ptrV p → x ib = ptrV q → w0.heap.size ≤ p → w0.heap.size ≤ q → Row W p T cA → Row W q T cB → Q .normal (putsV a0 ds 0 x) W) :
    wpAnyIn F n P md ops Q ops.size (Array.replicate ops.size false) a0 W0 := by
  refine anyIn_inv2 (Inv := fun l a W => ∃ x : Nat → Value, a = putsV a0 ds 0 x ∧ Below w0.heap.size w0 W ∧ (∀ j, On l j → j < ds.length → j ≠ ia → j ≠ ib → x j = V j) ∧ (∀ j, On l j → ∀ i ∈ dep j, On l i) ∧
      (On l ia → ∃ p, x ia = ptrV p ∧ w0.heap.size ≤ p ∧ (On l ds.length ∧ Row W p T cA ∨ ¬ On l ds.length ∧ Row W p T zc) ∧ (On l ib → x ib ≠ ptrV p)) ∧
      (On l ib → ∃ q, x ib = ptrV q ∧ w0.heap.size ≤ q ∧ (On l (ds.length + 1) ∧ Row W q T cB ∨ ¬ On l (ds.length + 1) ∧ Row W q T zc))) dep ops.size rfl hd ?_ ?_ _ _ _ _ (by simp) (by simp) ?_
  · rintro l a W i hl ⟨x, rfl, h1, h2, h4, h5, h6⟩ hi hno hdep
    have hon : ∀ j, On (l.setIfInBounds i true) j ↔ j = i ∨ On l j := by
      intro j
      constructor
      · intro h
        by_cases e : j = i
        · exact .inl e
        · exact .inr (h.of_set (Ne.symm e))
      · rintro (rfl | h)
        · exact On.self (by omega)
        · exact h.set
    have hcl : ∀ j, On (l.setIfInBounds i true) j → ∀ i' ∈ dep j, On (l.setIfInBounds i true) i' := by
      intro j hj q hq
      rcases (hon j).1 hj with rfl | hj
      · exact (hdep q hq).set
      · exact (h4 j hj q hq).set
    by_cases hlt : i < ds.length
    · have hdi : ds[i]? = some ds[i] := List.getElem?_eq_getElem hlt
      have hsA : On (l.setIfInBounds i true) ds.length ↔ On l ds.length := by rw [hon]; exact ⟨fun h => h.resolve_left (by omega), .inr⟩
      have hsB : On (l.setIfInBounds i true) (ds.length + 1) ↔ On l (ds.length + 1) := by rw [hon]; exact ⟨fun h => h.resolve_left (by omega), .inr⟩
      by_cases eA : i = ia
      · subst eA
        refine wpOpIn_mono ?_ (hall x W i ds[i] hdi (.inl rfl))
        rintro a' W' ⟨rfl, rfl⟩
        refine ⟨updV x i (ptrV W.heap.size), ?_, h1.alloc h1.size _, ?_, hcl, ?_, ?_⟩
        · rw [puts_put ds a0 0 i _ x _ hnd hdi, Nat.zero_add]
        · intro j hj hjl n1 n2
          unfold updV
          rw [if_neg n1]
          exact h2 j (((hon j).1 hj).resolve_left n1) hjl n1 n2
        · intro _
          refine ⟨W.heap.size, by unfold updV; rw [if_pos rfl], h1.size, .inr ⟨fun h => hno (h4 _ (hsA.1 h) _ hsa), Row.new _ _ _⟩, fun hb => ?_⟩
          have hb' : On l ib := ((hon ib).1 hb).resolve_left (Ne.symm hab)
          obtain ⟨q, e1, _, e3⟩ := h6 hb'
          have hq : q < W.heap.size := by rcases e3 with ⟨_, r⟩ | ⟨_, r⟩ <;> exact r.lt
          unfold updV
          rw [if_neg (Ne.symm hab), e1]
          intro e
          have := ptrV_inj e
          omega
        · intro hb
          have hb' : On l ib := ((hon ib).1 hb).resolve_left (Ne.symm hab)
          obtain ⟨q, e1, e2, e3⟩ := h6 hb'
          refine ⟨q, by unfold updV; rw [if_neg (Ne.symm hab)]; exact e1, e2, ?_⟩
          rcases e3 with ⟨o, r⟩ | ⟨o, r⟩
          · exact .inl ⟨hsB.2 o, r.alloc _⟩
          · exact .inr ⟨fun h => o (hsB.1 h), r.alloc _⟩
      by_cases eB : i = ib
      · subst eB
        refine wpOpIn_mono ?_ (hall x W i ds[i] hdi (.inr rfl))
        rintro a' W' ⟨rfl, rfl⟩
        refine ⟨updV x i (ptrV W.heap.size), ?_, h1.alloc h1.size _, ?_, hcl, ?_, ?_⟩
        · rw [puts_put ds a0 0 i _ x _ hnd hdi, Nat.zero_add]
        · intro j hj hjl n1 n2
          unfold updV
          rw [if_neg n2]
          exact h2 j (((hon j).1 hj).resolve_left n2) hjl n1 n2
        · intro ha
          have ha' : On l ia := ((hon ia).1 ha).resolve_left hab
          obtain ⟨p, e1, e2, e3, _⟩ := h5 ha'
          have hp : p < W.heap.size := by rcases e3 with ⟨_, r⟩ | ⟨_, r⟩ <;> exact r.lt
          refine ⟨p, by unfold updV; rw [if_neg hab]; exact e1, e2, ?_, fun _ => ?_⟩
          · rcases e3 with ⟨o, r⟩ | ⟨o, r⟩
            · exact .inl ⟨hsA.2 o, r.alloc _⟩
            · exact .inr ⟨fun h => o (hsA.1 h), r.alloc _⟩
          · unfold updV
            rw [if_pos rfl]
            intro e
            have := ptrV_inj e
            omega
        · intro _
          exact ⟨W.heap.size, by unfold updV; rw [if_pos rfl], h1.size, .inr ⟨fun h => hno (h4 _ (hsB.1 h) _ hsb), Row.new _ _ _⟩⟩
      · refine wpOpIn_mono ?_ (hstep x W i ds[i] h1 hdi eA eB (fun j hj n1 n2 => ?_))
        · rintro a' W' ⟨rfl, rfl⟩
          refine ⟨updV x i (V i), ?_, h1, ?_, hcl, ?_, ?_⟩
          · rw [puts_put ds a0 0 i _ x _ hnd hdi, Nat.zero_add]
          · intro j hj hjl n1 n2
            unfold updV
            split
            · rename_i e; rw [e]
            · rename_i e; exact h2 j (((hon j).1 hj).resolve_left e) hjl n1 n2
          · intro ha
            obtain ⟨p, e1, e2, e3, e4⟩ := h5 (((hon ia).1 ha).resolve_left (Ne.symm eA))
            refine ⟨p, by unfold updV; rw [if_neg (Ne.symm eA)]; exact e1, e2, ?_, fun hb => ?_⟩
            · rcases e3 with ⟨o, r⟩ | ⟨o, r⟩
              · exact .inl ⟨hsA.2 o, r⟩
              · exact .inr ⟨fun h => o (hsA.1 h), r⟩
            · unfold updV
              rw [if_neg (Ne.symm eB)]
              exact e4 (((hon ib).1 hb).resolve_left (Ne.symm eB))
          · intro hb
            obtain ⟨q, e1, e2, e3⟩ := h6 (((hon ib).1 hb).resolve_left (Ne.symm eB))
            refine ⟨q, by unfold updV; rw [if_neg (Ne.symm eB)]; exact e1, e2, ?_⟩
            rcases e3 with ⟨o, r⟩ | ⟨o, r⟩
            · exact .inl ⟨hsB.2 o, r⟩
            · exact .inr ⟨fun h => o (hsB.1 h), r⟩
        · by_cases hjl : j < ds.length
          · exact h2 j (hdep j hj) hjl n1 n2
          · exfalso
            have hall2 := List.all_eq_true.1 hd i (by rw [List.mem_range]; exact hi)
            rw [Array.getElem?_eq_getElem hi] at hall2
            simp only [Bool.and_eq_true] at hall2
            obtain ⟨e, he, he2⟩ := List.any_eq_true.1 (List.all_eq_true.1 hall2.1 j hj)
            simp only [Bool.and_eq_true, decide_eq_true_eq] at he2
            have h7 := List.all_eq_true.1 hall2.2 e he
            rw [he2.2] at h7
            simp only [Bool.not_true, Bool.false_or, decide_eq_true_eq] at h7
            omega
    · by_cases eS : i = ds.length
      · subst eS
        have haOn := hdep ia hsa
        obtain ⟨p, e1, e2, e3, e4⟩ := h5 haOn
        have rp : Row W p T zc := by
          rcases e3 with ⟨o, _⟩ | ⟨_, r⟩
          · exact absurd o hno
          · exact r
        refine wpOpIn_mono ?_ (hA x W p e1 rp (fun j hj n1 n2 => ?_))
        · rintro a' W' ⟨rfl, rfl⟩
          refine ⟨x, rfl, bSetRow h1 e2 _, fun j hj hjl n1 n2 => h2 j (((hon j).1 hj).resolve_left (by omega)) hjl n1 n2, hcl, ?_, ?_⟩
          · intro _
            refine ⟨p, e1, e2, .inl ⟨On.self (by omega), rp.put _⟩, fun hb => e4 (((hon ib).1 hb).resolve_left (by omega))⟩
          · intro hb
            have hb' := ((hon ib).1 hb).resolve_left (by omega)
            obtain ⟨q, f1, f2, f3⟩ := h6 hb'
            have hne : q ≠ p := fun e => e4 hb' (by rw [f1, e])
            refine ⟨q, f1, f2, ?_⟩
            rcases f3 with ⟨o, r⟩ | ⟨o, r⟩
            · exact .inl ⟨o.set, r.putOther hne _⟩
            · exact .inr ⟨fun h => o (((hon _).1 h).resolve_left (by omega)), r.putOther hne _⟩
        · by_cases hjl : j < ds.length
          · exact h2 j (hdep j hj) hjl n1 n2
          · exfalso
            have hall2 := List.all_eq_true.1 hd ds.length (by rw [List.mem_range]; exact hi)
            rw [Array.getElem?_eq_getElem hi] at hall2
            simp only [Bool.and_eq_true] at hall2
            obtain ⟨e, he, he2⟩ := List.any_eq_true.1 (List.all_eq_true.1 hall2.1 j hj)
            simp only [Bool.and_eq_true, decide_eq_true_eq] at he2
            have h7 := List.all_eq_true.1 hall2.2 e he
            rw [he2.2] at h7
            simp only [Bool.not_true, Bool.false_or, decide_eq_true_eq] at h7
            omega
      · obtain rfl : i = ds.length + 1 := by omega
        have hbOn := hdep ib hsb
        obtain ⟨q, e1, e2, e3⟩ := h6 hbOn
        have rq : Row W q T zc := by
          rcases e3 with ⟨o, _⟩ | ⟨_, r⟩
          · exact absurd o hno
          · exact r
        refine wpOpIn_mono ?_ (hB x W q e1 rq (fun j hj n1 n2 => ?_))
        · rintro a' W' ⟨rfl, rfl⟩
          refine ⟨x, rfl, bSetRow h1 e2 _, fun j hj hjl n1 n2 => h2 j (((hon j).1 hj).resolve_left (by omega)) hjl n1 n2, hcl, ?_, ?_⟩
          · intro ha
            have ha' := ((hon ia).1 ha).resolve_left (by omega)
            obtain ⟨p, f1, f2, f3, f4⟩ := h5 ha'
            have hne : p ≠ q := fun e => f4 hbOn (by rw [e1, e])
            refine ⟨p, f1, f2, ?_, fun _ => f4 hbOn⟩
            rcases f3 with ⟨o, r⟩ | ⟨o, r⟩
            · exact .inl ⟨o.set, r.putOther hne _⟩
            · exact .inr ⟨fun h => o (((hon _).1 h).resolve_left (by omega)), r.putOther hne _⟩
          · intro _
            exact ⟨q, e1, e2, .inl ⟨On.self (by omega), rq.put _⟩⟩
        · by_cases hjl : j < ds.length
          · exact h2 j (hdep j hj) hjl n1 n2
          · by_cases hj2 : j = ds.length
            · exfalso
              subst hj2
              exact hno2 hj
            · exfalso
              have hall2 := List.all_eq_true.1 hd (ds.length + 1) (by rw [List.mem_range]; exact hi)
              rw [Array.getElem?_eq_getElem hi] at hall2
              simp only [Bool.and_eq_true] at hall2
              obtain ⟨e, he, he2⟩ := List.any_eq_true.1 (List.all_eq_true.1 hall2.1 j hj)
              simp only [Bool.and_eq_true, decide_eq_true_eq] at he2
              have h7 := List.all_eq_true.1 hall2.2 e he
              rw [he2.2] at h7
              simp only [Bool.not_true, Bool.false_or, decide_eq_true_eq] at h7
              omega
  · rintro l a W ⟨x, rfl, h1, h2, h4, h5, h6⟩ hon
    obtain ⟨p, e1, e2, e3, _⟩ := h5 (hon ia (by omega))
    obtain ⟨q, f1, f2, f3⟩ := h6 (hon ib (by omega))
    refine hdone x W p q h1 (fun j hj n1 n2 => h2 j (hon j (by omega)) hj n1 n2) e1 f1 e2 f2 ?_ ?_
    · rcases e3 with ⟨_, r⟩ | ⟨o, _⟩
      · exact r
      · exact absurd (hon _ (by omega)) o
    · rcases f3 with ⟨_, r⟩ | ⟨o, _⟩
      · exact r
      · exact absurd (hon _ (by omega)) o
  · exact ⟨_, (puts_start a0 ds 0).symm, hW, fun j hj => absurd hj (On.none _ _), fun j hj => absurd hj (On.none _ _), fun h => absurd h (On.none _ _), fun h => absurd h (On.none _ _)⟩
end
end Go.Proofs.YtaighdppemnglaaGreatDoor

/-! SHA-256 on lists of words and bytes: no program in sight. -/
namespace Go.Proofs.YtaighdppemnglaaGreatDoor
open Go

/-- The bytes of a word, the highest first. -/
def byteOf (x : Wd) (j : Nat) : By := (sr x (24 - 8 * j)).setWidth 8
theorem v8_byteOf (x : Wd) (j : Nat) : u (sr x (24 - 8 * j)) % 256 = v8 (byteOf x j) := by
  unfold u v8 byteOf
  rw [BitVec.toNat_setWidth]
  omega
/-- The bytes of words. -/
def sumB (s : List Wd) : List By := (List.range 32).map fun i => byteOf (gw s (i / 4)) (i % 4)
theorem sumB_length (s : List Wd) : (sumB s).length = 32 := by simp [sumB]
theorem sumB_get (s : List Wd) (i : Nat) (h : i < 32) : (sumB s)[i]? = some (byteOf (gw s (i / 4)) (i % 4)) := by simp [sumB, h]

/-- One by one: what has come, and nothing yet behind it. -/
theorem fill_set {α : Type} (l : List α) (z : α) (k n : Nat) (hl : l.length = n) (hk : k < n) (x : α) (hx : l[k]? = some x) :
    (l.take k ++ List.replicate (n - k) z).set k x = l.take (k + 1) ++ List.replicate (n - (k + 1)) z := by
  have hx' : l[k]'(by omega) = x := by
    rw [List.getElem?_eq_getElem (by omega)] at hx
    exact Option.some.inj hx
  rw [List.set_append_right k x (by simp; omega), List.take_succ_eq_append_getElem (by omega), hx']
  have e : n - k = (n - (k + 1)) + 1 := by omega
  simp only [List.length_take, show min k l.length = k by omega, Nat.sub_self, e, List.replicate_succ, List.set_cons_zero, List.append_assoc, List.singleton_append]

/-- The bits of f where e's are set, else those of g; those that at least two of a, b, c have. -/
def ch (e f g : Wd) : Wd := xr (an e f) (an (nt e) g)
def maj (a b c : Wd) : Wd := xr (xr (an a b) (an a c)) (an b c)
theorem ch_or (e f g : Wd) : oo (an e f) (an (nt e) g) = ch e f g := by
  unfold ch oo an nt xr
  apply BitVec.eq_of_getElem_eq
  intro i hi
  simp only [BitVec.getElem_or, BitVec.getElem_and, BitVec.getElem_not, BitVec.getElem_xor]
  cases e[i] <;> cases f[i] <;> cases g[i] <;> rfl
theorem maj_or (a b c : Wd) : oo (oo (an a b) (an a c)) (an b c) = maj a b c := by
  unfold maj oo an xr
  apply BitVec.eq_of_getElem_eq
  intro i hi
  simp only [BitVec.getElem_or, BitVec.getElem_and, BitVec.getElem_xor]
  cases a[i] <;> cases b[i] <;> cases c[i] <;> rfl
/-- Three taken against one another. -/
def S1 (e : Wd) : Wd := xr (xr (rr e 6) (rr e 11)) (rr e 25)
def S0 (a : Wd) : Wd := xr (xr (rr a 2) (rr a 13)) (rr a 22)
def s1 (x : Wd) : Wd := xr (xr (rr x 17) (rr x 19)) (sr x 10)
def s0 (y : Wd) : Wd := xr (xr (rr y 7) (rr y 18)) (sr y 3)
def T1 (e f g h kw : Wd) : Wd := ad (ad (ad h (S1 e)) (ch e f g)) kw
def T2 (a b c : Wd) : Wd := ad (S0 a) (maj a b c)
/-- One of the 64 turns. -/
def turnL (s : List Wd) (kw : Wd) : List Wd :=
  [ad (T1 (gw s 4) (gw s 5) (gw s 6) (gw s 7) kw) (T2 (gw s 0) (gw s 1) (gw s 2)), gw s 0, gw s 1, gw s 2, ad (gw s 3) (T1 (gw s 4) (gw s 5) (gw s 6) (gw s 7) kw), gw s 4, gw s 5, gw s 6]
theorem turnL_length (s : List Wd) (kw : Wd) : (turnL s kw).length = 8 := rfl
theorem eight {α : Type} {s : List α} (h : s.length = 8) : ∃ a b c d e f g i, s = [a, b, c, d, e, f, g, i] := by
  match s, h with
  | [a, b, c, d, e, f, g, i], _ => exact ⟨a, b, c, d, e, f, g, i, rfl⟩
end Go.Proofs.YtaighdppemnglaaGreatDoor

/-! The words of a block, on lists: no program in sight. -/
namespace Go.Proofs.YtaighdppemnglaaGreatDoor
open Go

/-- A byte as a word. -/
def ex (b : By) : Wd := b.setWidth 32
theorem v8_ex (b : By) : v8 b = u (ex b) := by
  have := b.isLt
  unfold v8 u ex
  rw [BitVec.toNat_setWidth]
  omega

/-- The word that bytes make, the highest first. -/
def wordUp (l : List By) : Wd := l.foldl (fun w c => oo (sl w 8) (ex c)) 0
theorem wordUp_snoc (l : List By) (c : By) : wordUp (l ++ [c]) = oo (sl (wordUp l) 8) (ex c) := by simp [wordUp]

/-- The words when i bytes have come. -/
def parts (b : List By) (i : Nat) : List Wd := (List.range 64).map fun q => wordUp ((b.drop (4 * q)).take (min 4 (i - 4 * q)))
theorem parts_length (b : List By) (i : Nat) : (parts b i).length = 64 := by simp [parts]
theorem parts_get (b : List By) (i q : Nat) (h : q < 64) : gw (parts b i) q = wordUp ((b.drop (4 * q)).take (min 4 (i - 4 * q))) := by simp [gw, parts, h]
theorem parts_zero (b : List By) : parts b 0 = List.replicate 64 0 := by
  apply List.ext_getElem
  · simp [parts]
  · intro j h1 h2
    rw [List.getElem_replicate]
    simp only [parts, List.getElem_map, Nat.zero_sub, Nat.min_zero, List.take_zero]
    rfl
theorem parts_step (b : List By) (i : Nat) (hb : b.length = 64) (hi : i < 64) : (parts b i).set (i / 4) (oo (sl (gw (parts b i) (i / 4)) 8) (ex (gb b i))) = parts b (i + 1) := by
  rw [parts_get b i (i / 4) (by omega)]
  apply List.ext_getElem
  · simp [parts]
  · intro j h1 h2
    rw [List.getElem_set]
    split
    · rename_i h
      subst h
      simp only [parts, List.getElem_map, List.getElem_range]
      have e1 : min 4 (i - 4 * (i / 4)) = i - 4 * (i / 4) := by omega
      have e2 : min 4 (i + 1 - 4 * (i / 4)) = i - 4 * (i / 4) + 1 := by omega
      rw [e1, e2, List.take_succ_eq_append_getElem (by simp; omega), wordUp_snoc]
      congr 2
      simp only [List.getElem_drop, gb]
      have aux : ∀ (k : Nat) (hk : k < b.length), k = i → b[i]?.getD 0 = b[k] := fun k hk e => by subst e; simp [hk]
      exact aux _ _ (by omega)
    · rename_i h
      simp only [parts, List.getElem_map, List.getElem_range]
      rw [show min 4 (i + 1 - 4 * j) = min 4 (i - 4 * j) by omega]

def first16 (b : List By) : List Wd := (List.range 16).map fun q => wordUp ((b.drop (4 * q)).take 4)
theorem first16_length (b : List By) : (first16 b).length = 16 := by simp [first16]
theorem parts_all (b : List By) : parts b 64 = first16 b ++ List.replicate 48 0 := by
  apply List.ext_getElem
  · simp [parts, first16]
  · intro j h1 h2
    have hj : j < 64 := by simpa [parts] using h1
    simp only [parts, List.getElem_map, List.getElem_range, List.getElem_append, first16_length]
    split
    · rename_i h
      simp only [first16, List.getElem_map, List.getElem_range]
      rw [show min 4 (64 - 4 * j) = 4 by omega]
    · rename_i h
      rw [show min 4 (64 - 4 * j) = 0 by omega, List.getElem_replicate, List.take_zero]
      rfl

/-- The word behind words. -/
def nextW (l : List Wd) : Wd := ad (ad (ad (s1 (gw l (l.length - 2))) (gw l (l.length - 7))) (s0 (gw l (l.length - 15)))) (gw l (l.length - 16))
def schedN (b : List By) : Nat → List Wd
  | 0 => first16 b
  | n + 1 => schedN b n ++ [nextW (schedN b n)]
theorem schedN_length (b : List By) : ∀ n, (schedN b n).length = 16 + n
  | 0 => first16_length b
  | n + 1 => by rw [schedN, List.length_append, schedN_length b n]; rfl
def sched (b : List By) : List Wd := schedN b 48
theorem sched_length (b : List By) : (sched b).length = 64 := schedN_length b 48
/-- The row while its words are reckoned. -/
def schedR (b : List By) (n : Nat) : List Wd := schedN b n ++ List.replicate (48 - n) 0
theorem schedR_length (b : List By) (n : Nat) (h : n ≤ 48) : (schedR b n).length = 64 := by simp [schedR, schedN_length]; omega
theorem schedR_get (b : List By) (n j : Nat) (h : j < 16 + n) : gw (schedR b n) j = gw (schedN b n) j := by
  unfold gw schedR
  rw [List.getElem?_append_left (by rw [schedN_length]; exact h)]
theorem schedR_step (b : List By) (n : Nat) (h : n < 48) : (schedR b n).set (16 + n) (ad (ad (ad (s1 (gw (schedR b n) (16 + n - 2))) (gw (schedR b n) (16 + n - 7))) (s0 (gw (schedR b n) (16 + n - 15)))) (gw (schedR b n) (16 + n - 16))) = schedR b (n + 1) := by
  rw [schedR_get b n _ (by omega), schedR_get b n _ (by omega), schedR_get b n _ (by omega), schedR_get b n _ (by omega)]
  have e : nextW (schedN b n) = ad (ad (ad (s1 (gw (schedN b n) (16 + n - 2))) (gw (schedN b n) (16 + n - 7))) (s0 (gw (schedN b n) (16 + n - 15)))) (gw (schedN b n) (16 + n - 16)) := by
    unfold nextW; rw [schedN_length]
  rw [← e]
  unfold schedR
  rw [List.set_append_right _ _ (by rw [schedN_length]; omega), schedN_length, show 48 - n = (48 - (n + 1)) + 1 by omega, List.replicate_succ, Nat.sub_self, List.set_cons_zero, schedN, List.append_assoc]
  rfl
theorem schedR_all (b : List By) : schedR b 48 = sched b := by simp [schedR, sched]
theorem schedR_zero (b : List By) : schedR b 0 = parts b 64 := by rw [parts_all]; rfl
end Go.Proofs.YtaighdppemnglaaGreatDoor

/-! A state, a block further, on lists: no program in sight. -/
namespace Go.Proofs.YtaighdppemnglaaGreatDoor
open Go

/-- The words a to h behind t turns. -/
def roundsTo (s k w : List Wd) : Nat → List Wd
  | 0 => s
  | t + 1 => turnL (roundsTo s k w t) (ad (gw k t) (gw w t))
theorem roundsTo_length (s k w : List Wd) (hs : s.length = 8) : ∀ t, (roundsTo s k w t).length = 8
  | 0 => hs
  | _ + 1 => rfl
/-- Each with what the other has, added. -/
def sumS (s n : List Wd) : List Wd := (List.range 8).map fun i => ad (gw s i) (gw n i)
theorem sumS_length (s n : List Wd) : (sumS s n).length = 8 := by simp [sumS]
theorem sumS_get (s n : List Wd) (i : Nat) (h : i < 8) : (sumS s n)[i]? = some (ad (gw s i) (gw n i)) := by simp [sumS, h]
theorem ad_comm (a b : Wd) : ad a b = ad b a := by unfold ad; exact BitVec.add_comm a b
theorem ad_assoc (a b c : Wd) : ad (ad a b) c = ad a (ad b c) := by unfold ad; exact BitVec.add_assoc a b c
/-- A state, a block further, by the words K. -/
def furtherL (s k : List Wd) (b : List By) : List Wd := sumS s (roundsTo s k (sched b) 64)
theorem furtherL_length (s k : List Wd) (b : List By) : (furtherL s k b).length = 8 := sumS_length _ _

/-- One by one: what has come, and behind it what was. -/
def mix {α : Type} (l r : List α) (i : Nat) : List α := l.take i ++ r.drop i
theorem mix_length {α : Type} (l r : List α) (i n : Nat) (hl : l.length = n) (hr : r.length = n) (hi : i ≤ n) : (mix l r i).length = n := by simp [mix, hl, hr]; omega
theorem mix_zero {α : Type} (l r : List α) : mix l r 0 = r := by simp [mix]
theorem mix_all {α : Type} (l r : List α) (n : Nat) (hl : l.length = n) (hr : r.length = n) : mix l r n = l := by
  unfold mix
  rw [List.take_of_length_le (by omega), List.drop_of_length_le (by omega), List.append_nil]
theorem mix_get {α : Type} (l r : List α) (i n : Nat) (hl : l.length = n) (hi : i < n) : (mix l r i)[i]? = r[i]? := by
  unfold mix
  rw [List.getElem?_append_right (by simp; omega), List.length_take, show min i l.length = i by omega, Nat.sub_self, List.getElem?_drop, Nat.add_zero]
theorem mix_set {α : Type} (l r : List α) (i n : Nat) (hl : l.length = n) (hr : r.length = n) (hi : i < n) (x : α) (hx : l[i]? = some x) : (mix l r i).set i x = mix l r (i + 1) := by
  have hx' : l[i]'(by omega) = x := by
    rw [List.getElem?_eq_getElem (by omega)] at hx
    exact Option.some.inj hx
  unfold mix
  rw [List.set_append_right i x (by simp; omega), List.take_succ_eq_append_getElem (by omega), hx', List.length_take, show min i l.length = i by omega, Nat.sub_self, List.drop_eq_getElem_cons (show i < r.length by omega), List.set_cons_zero, List.append_assoc]
  rfl
theorem gw_mix (l r : List Wd) (i n : Nat) (hl : l.length = n) (hi : i < n) : gw (mix l r i) i = gw r i := by unfold gw; rw [mix_get l r i n hl hi]
end Go.Proofs.YtaighdppemnglaaGreatDoor
