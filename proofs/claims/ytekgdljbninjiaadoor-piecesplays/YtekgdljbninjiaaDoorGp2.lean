/-
  Out of AeInv, AeVals, AeVals2, RgGuard, PcTools, ShaPlain, ShaSched, ShaFurther, ShaPrimes, ShaPad.
-/
import Derived.Test.YtekgdljbninjiaaDoorGp1

/-! A region that draws its order, by what holds at every state on the way, of any number of operations: what is asked of its order is read off its edges. No program in sight. -/
namespace Go.Proofs.YtekgdljbninjiaaDoor
open Go Go.RowKit

/-- Values by their numbers, one of them another. -/
def updV (x : Nat → Value) (i : Nat) (v : Value) : Nat → Value := fun j => if j = i then v else x j
theorem updV_self {x : Nat → Value} {i : Nat} {v : Value} (h : x i = v) : x = updV x i v := by
  funext j
  unfold updV
  split
  · rename_i e; rw [e, h]
  · rfl

section
variable {F : Fence} {n : Nat} {P : Program} {ops : Array Oper} {Q : Exit → Act → World → Prop} {md : Region.Mode}
/-- What an operation is said to wait for is an edge that binds; and each edge that binds goes back. -/
def edgesB (md : Region.Mode) (ops : Array Oper) (dep : Nat → List Nat) : Bool :=
  (List.range ops.size).all fun i => match ops[i]? with
    | none => false
    | some o => ((dep i).all fun j => o.after.toList.any fun e => decide (e.on = j) && Region.binds md e) && o.after.toList.all fun e => !Region.binds md e || decide (e.on < i)

theorem anyIn_inv2 {Inv : Array Bool → Act → World → Prop} (dep : Nat → List Nat) (N : Nat) (hN : ops.size = N) (hd : edgesB md ops dep = true)
    (hstep : ∀ l a w i, l.size = N → Inv l a w → i < N → ¬ On l i → (∀ j ∈ dep i, On l j) → wpOpIn F n P ops Q i (Inv (l.setIfInBounds i true)) a w)
    (hdone : ∀ l a w, Inv l a w → (∀ i, i < N → On l i) → Q .normal a w) :
    ∀ (fuel : Nat) (l : Array Bool) (a : Act) (w : World), l.size = N → l.toList.count false ≤ fuel → Inv l a w → wpAnyIn F n P md ops Q fuel l a w := by
  have hall : ∀ i, i < N → ∃ o, ops[i]? = some o ∧ (∀ j ∈ dep i, ∃ e ∈ o.after.toList, e.on = j ∧ Region.binds md e = true) ∧ ∀ e ∈ o.after.toList, Region.binds md e = true → e.on < i := by
    intro i hi
    have h := List.all_eq_true.1 hd i (by rw [List.mem_range, hN]; exact hi)
    cases ho : ops[i]? with
    | none => simp [ho] at h
    | some o =>
      simp only [ho, Bool.and_eq_true] at h
      refine ⟨o, rfl, fun j hj => ?_, fun e he hb => ?_⟩
      · obtain ⟨e, he, h1⟩ := List.any_eq_true.1 (List.all_eq_true.1 h.1 j hj)
        simp only [Bool.and_eq_true, decide_eq_true_eq] at h1
        exact ⟨e, he, h1.1, h1.2⟩
      · have h1 := List.all_eq_true.1 h.2 e he
        rw [hb] at h1
        simpa using h1
  have key : ∀ l : Array Bool, l.size = N → (∀ i ∈ Region.ready md ops l, i < N ∧ l.getD i false = false ∧ ∀ j ∈ dep i, On l j) ∧ (Region.ready md ops l = [] → ∀ i, i < N → On l i) := by
    intro l hl
    refine ⟨fun i hi => ?_, fun h0 => ?_⟩
    · unfold Region.ready at hi
      rw [List.mem_filter, List.mem_range, hN] at hi
      obtain ⟨h1, h2⟩ := hi
      obtain ⟨o, ho, hdep, _⟩ := hall i h1
      simp only [ho, Option.map_some, Option.getD_some, Bool.and_eq_true, Bool.not_eq_true'] at h2
      have h3 : l.getD i false = false := by
        have := h2.1
        rw [Array.getD_eq_getD_getElem?, Array.getElem?_eq_getElem (by omega)] at this ⊢
        simpa using this
      refine ⟨h1, h3, fun j hj => ?_⟩
      obtain ⟨e, he, rfl, hb⟩ := hdep j hj
      have h4 := Array.all_eq_true'.1 h2.2 e (by simpa using he)
      rw [hb] at h4
      unfold On
      simpa using h4
    · intro i
      induction i using Nat.strongRecOn with
      | _ i ih =>
        intro hi
        obtain ⟨o, ho, _, hback⟩ := hall i hi
        cases hc : l.getD i false with
        | true => exact hc
        | false =>
          exfalso
          have hm : i ∈ Region.ready md ops l := by
            unfold Region.ready
            rw [List.mem_filter, List.mem_range, hN]
            refine ⟨hi, ?_⟩
            simp only [ho, Option.map_some, Option.getD_some, Bool.and_eq_true, Bool.not_eq_true']
            refine ⟨?_, Array.all_eq_true'.2 fun e he => ?_⟩
            · rw [Array.getD_eq_getD_getElem?, Array.getElem?_eq_getElem (by omega)] at hc ⊢
              simpa using hc
            · cases hb : Region.binds md e with
              | false => rfl
              | true =>
                have h1 := hback e (by simpa using he) hb
                have h2 := ih e.on h1 (by omega)
                unfold On at h2
                simpa using h2
          rw [h0] at hm
          cases hm
  intro fuel
  induction fuel with
  | zero =>
    intro l a w hl hc hI
    have h0 : Region.ready md ops l = [] := by
      cases hr : Region.ready md ops l with
      | nil => rfl
      | cons i r =>
        exfalso
        have h1 := (key l hl).1 i (by rw [hr]; simp)
        have h2 := count_set l i (by omega) h1.2.1
        omega
    exact ⟨h0, hdone l a w hI ((key l hl).2 h0)⟩
  | succ fuel ih =>
    intro l a w hl hc hI
    refine ⟨fun h0 => hdone l a w hI ((key l hl).2 h0), fun i hi => ?_⟩
    have h1 := (key l hl).1 i hi
    have h2 := count_set l i (by omega) h1.2.1
    exact wpOpIn_mono (fun a' w' hI' => ih _ a' w' (by rw [Array.size_setIfInBounds]; exact hl) (by omega) hI') (hstep l a w i hl hI h1.1 (by unfold On; rw [h1.2.1]; simp) h1.2.2)
end
/-- A region that reads and calls: each operation that is done has brought its value about. -/
structure JV (V : Nat → Value) (w0 : World) (l : Array Bool) (W : World) (x : Nat → Value) : Prop where
  bel : Below w0.heap.size w0 W
  g : ∀ j, On l j → x j = V j
theorem JV.next {V : Nat → Value} {w0 : World} {l : Array Bool} {W : World} {x : Nat → Value} (q : JV V w0 l W x) (i : Nat) (W' : World) (hb : Below W.heap.size W W') (v : Value) (hv : v = V i) : JV V w0 (l.setIfInBounds i true) W' (updV x i v) := by
  refine ⟨q.bel.trans (hb.mono q.bel.size), fun j hj => ?_⟩
  unfold updV
  split
  · rename_i e; rw [e]; exact hv
  · rename_i e; exact q.g j (hj.of_set (Ne.symm e))
theorem JV.start (V : Nat → Value) (w0 : World) (N : Nat) (W : World) (h : Below w0.heap.size w0 W) (x : Nat → Value) : JV V w0 (Array.replicate N false) W x := ⟨h, fun _ hj => absurd hj (On.none _ _)⟩
end Go.Proofs.YtekgdljbninjiaaDoor

/-! A region that draws its order, reads and calls: each operation has one value, whatever the order. No program in sight. -/
namespace Go.Proofs.YtekgdljbninjiaaDoor
open Go Go.RowKit

/-- The slots of a list, from a number on, filled. -/
def putsV (a : Act) : List Nat → Nat → (Nat → Value) → Act
  | [], _, _ => a
  | d :: ds, k, x => putsV (a.put (some d) (x k)) ds (k + 1) x
theorem put_comm (a : Act) (d e : Nat) (u v : Value) (h : d ≠ e) : (a.put (some d) u).put (some e) v = (a.put (some e) v).put (some d) u := by
  simp only [Act.put]
  rw [Array.setIfInBounds_comm _ _ h]
theorem put_again (a : Act) (d : Nat) (u v : Value) : (a.put (some d) u).put (some d) v = a.put (some d) v := by
  simp only [Act.put]
  rw [Array.setIfInBounds_setIfInBounds]
theorem puts_comm (d : Nat) (v : Value) : ∀ (ds : List Nat) (a : Act) (k : Nat) (x : Nat → Value), d ∉ ds → (putsV a ds k x).put (some d) v = putsV (a.put (some d) v) ds k x
  | [], _, _, _, _ => rfl
  | e :: ds, a, k, x, h => by
    simp only [List.mem_cons, not_or] at h
    rw [putsV, puts_comm d v ds _ _ _ h.2, putsV, put_comm _ _ _ _ _ (Ne.symm h.1)]
theorem puts_congr : ∀ (ds : List Nat) (a : Act) (k : Nat) (x y : Nat → Value), (∀ j, k ≤ j → x j = y j) → putsV a ds k x = putsV a ds k y
  | [], _, _, _, _, _ => rfl
  | e :: ds, a, k, x, y, h => by
    rw [putsV, putsV, h k (Nat.le_refl _), puts_congr ds _ _ x y (fun j hj => h j (by omega))]
theorem puts_put : ∀ (ds : List Nat) (a : Act) (k i d : Nat) (x : Nat → Value) (v : Value), ds.Nodup → ds[i]? = some d → (putsV a ds k x).put (some d) v = putsV a ds k (updV x (k + i) v)
  | [], _, _, _, _, _, _, _, h => by simp at h
  | e :: ds, a, k, 0, d, x, v, hn, h => by
    simp only [List.getElem?_cons_zero, Option.some.injEq] at h
    subst h
    rw [List.nodup_cons] at hn
    rw [putsV, puts_comm _ _ _ _ _ _ hn.1, put_again, putsV]
    have e1 : updV x (k + 0) v k = v := by unfold updV; rw [if_pos (Nat.add_zero k).symm]
    rw [e1]
    exact puts_congr _ _ _ _ _ fun j hj => by unfold updV; rw [if_neg (by omega)]
  | e :: ds, a, k, i + 1, d, x, v, hn, h => by
    rw [List.nodup_cons] at hn
    rw [List.getElem?_cons_succ] at h
    rw [putsV, puts_put ds _ _ i d x v hn.2 h, putsV]
    have e1 : updV x (k + (i + 1)) v k = x k := by unfold updV; rw [if_neg (by omega)]
    rw [e1, show k + 1 + i = k + (i + 1) by omega]

section
variable {F : Fence} {n : Nat} {P : Program} {ops : Array Oper} {Q : Exit → Act → World → Prop} {md : Region.Mode}
theorem anyIn_vals {a0 : Act} {w0 W0 : World} (V : Nat → Value) (ds : List Nat) (dep : Nat → List Nat) (hd : edgesB md ops dep = true) (hlen : ds.length = ops.size) (hnd : ds.Nodup)
    (h0 : putsV a0 ds 0 (fun _ => undef) = a0) (hW : Below w0.heap.size w0 W0)
    (hstep : ∀ (x : Nat → Value) (W : World) (i d : Nat), Below w0.heap.size w0 W → ds[i]? = some d → (∀ j ∈ dep i, x j = V j) → wpOpIn F n P ops Q i (fun a' W' => a' = (putsV a0 ds 0 x).put (some d) (V i) ∧ Below W.heap.size W W') (putsV a0 ds 0 x) W)
    (hdone : ∀ W, Below w0.heap.size w0 W → Q .normal (putsV a0 ds 0 V) W) : wpAnyIn F n P md ops Q ops.size (Array.replicate ops.size false) a0 W0 := by
  refine anyIn_inv2 (Inv := fun l a W => ∃ x : Nat → Value, a = putsV a0 ds 0 x ∧ JV V w0 l W x) dep ops.size rfl hd ?_ ?_ _ _ _ _ (by simp) (by simp) ⟨fun _ => undef, h0.symm, JV.start _ _ _ _ hW _⟩
  · rintro l a W i _ ⟨x, rfl, hJ⟩ hi _ hdep
    have hi' : i < ds.length := by omega
    have hdi : ds[i]? = some ds[i] := List.getElem?_eq_getElem hi'
    refine wpOpIn_mono ?_ (hstep x W i ds[i] hJ.bel hdi (fun j hj => hJ.g j (hdep j hj)))
    rintro a' W' ⟨rfl, hb⟩
    refine ⟨updV x i (V i), ?_, hJ.next i W' hb _ rfl⟩
    rw [puts_put ds a0 0 i _ x _ hnd hdi, Nat.zero_add]
  · rintro l a W ⟨x, rfl, hJ⟩ hon
    have e : putsV a0 ds 0 x = putsV a0 ds 0 V := by
      have key : ∀ (ds' : List Nat) (b : Act) (k : Nat), k + ds'.length = ops.size → putsV b ds' k x = putsV b ds' k V := by
        intro ds'
        induction ds' with
        | nil => intro _ _ _; rfl
        | cons d ds' ih =>
          intro b k hk
          simp only [List.length_cons] at hk
          rw [putsV, putsV, hJ.g k (hon k (by omega)), ih _ _ (by omega)]
      exact key ds a0 0 (by omega)
    rw [e]
    exact hdone W hJ.bel
/-- The same, with what each operation brings about told of its value and the world. -/
theorem anyIn_gen {a0 : Act} {w0 W0 : World} (G : Nat → World → Value → Prop) (hmono : ∀ j W W' v, Below W.heap.size W W' → G j W v → G j W' v) (ds : List Nat) (dep : Nat → List Nat) (hd : edgesB md ops dep = true) (hlen : ds.length = ops.size) (hnd : ds.Nodup)
    (h0 : putsV a0 ds 0 (fun _ => undef) = a0) (hW : Below w0.heap.size w0 W0)
    (hstep : ∀ (x : Nat → Value) (W : World) (i d : Nat), Below w0.heap.size w0 W → ds[i]? = some d → (∀ j ∈ dep i, G j W (x j)) → wpOpIn F n P ops Q i (fun a' W' => ∃ v, a' = (putsV a0 ds 0 x).put (some d) v ∧ Below W.heap.size W W' ∧ G i W' v) (putsV a0 ds 0 x) W)
    (hdone : ∀ x W, Below w0.heap.size w0 W → (∀ j, j < ds.length → G j W (x j)) → Q .normal (putsV a0 ds 0 x) W) : wpAnyIn F n P md ops Q ops.size (Array.replicate ops.size false) a0 W0 := by
  refine anyIn_inv2 (Inv := fun l a W => ∃ x : Nat → Value, a = putsV a0 ds 0 x ∧ Below w0.heap.size w0 W ∧ ∀ j, On l j → G j W (x j)) dep ops.size rfl hd ?_ ?_ _ _ _ _ (by simp) (by simp) ⟨fun _ => undef, h0.symm, hW, fun _ hj => absurd hj (On.none _ _)⟩
  · rintro l a W i _ ⟨x, rfl, h2, h3⟩ hi _ hdep
    have hlt : i < ds.length := by omega
    have hdi : ds[i]? = some ds[i] := List.getElem?_eq_getElem hlt
    refine wpOpIn_mono ?_ (hstep x W i ds[i] h2 hdi (fun j hj => h3 j (hdep j hj)))
    rintro a' W' ⟨v, rfl, hb, hv⟩
    refine ⟨updV x i v, ?_, h2.trans (hb.mono h2.size), fun j hj => ?_⟩
    · rw [puts_put ds a0 0 i _ x _ hnd hdi, Nat.zero_add]
    · unfold updV
      split
      · rename_i e; rw [e]; exact hv
      · rename_i e; exact hmono _ _ _ _ hb (h3 j (hj.of_set (Ne.symm e)))
  · rintro l a W ⟨x, rfl, h2, h3⟩ hon
    exact hdone x W h2 (fun j hj => h3 j (hon j (by omega)))
/-- The same, with what each operation brings about told of its value and the world; the last operation, which waits for all others, stores. -/
theorem anyIn_store {a0 : Act} {w0 W0 : World} (G : Nat → World → Value → Prop) (hmono : ∀ j W W' v, Below W.heap.size W W' → G j W v → G j W' v) (ds : List Nat) (dep : Nat → List Nat) (hd : edgesB md ops dep = true) (hlen : ds.length + 1 = ops.size) (hnd : ds.Nodup)
    (hall : ∀ j, j < ds.length → j ∈ dep ds.length)
    (h0 : putsV a0 ds 0 (fun _ => undef) = a0) (hW : Below w0.heap.size w0 W0) (R : (Nat → Value) → World → Prop)
    (hstep : ∀ (x : Nat → Value) (W : World) (i d : Nat), Below w0.heap.size w0 W → ds[i]? = some d → (∀ j ∈ dep i, G j W (x j)) → wpOpIn F n P ops Q i (fun a' W' => ∃ v, a' = (putsV a0 ds 0 x).put (some d) v ∧ Below W.heap.size W W' ∧ G i W' v) (putsV a0 ds 0 x) W)
    (hlast : ∀ (x : Nat → Value) (W : World), Below w0.heap.size w0 W → (∀ j, j < ds.length → G j W (x j)) → wpOpIn F n P ops Q ds.length (fun a' W' => a' = putsV a0 ds 0 x ∧ R x W') (putsV a0 ds 0 x) W)
    (hdone : ∀ x W, R x W → Q .normal (putsV a0 ds 0 x) W) : wpAnyIn F n P md ops Q ops.size (Array.replicate ops.size false) a0 W0 := by
  refine anyIn_inv2 (Inv := fun l a W => ∃ x : Nat → Value, a = putsV a0 ds 0 x ∧ ((¬ On l ds.length ∧ Below w0.heap.size w0 W ∧ ∀ j, On l j → G j W (x j)) ∨ ((∀ j, j < ds.length → On l j) ∧ On l ds.length ∧ R x W))) dep ops.size rfl hd ?_ ?_ _ _ _ _ (by simp) (by simp) ⟨fun _ => undef, h0.symm, .inl ⟨On.none _ _, hW, fun _ hj => absurd hj (On.none _ _)⟩⟩
  · rintro l a W i hl ⟨x, rfl, hJ⟩ hi hno hdep
    rcases hJ with ⟨h1, h2, h3⟩ | ⟨h1, h2, _⟩
    · by_cases hlt : i < ds.length
      · have hdi : ds[i]? = some ds[i] := List.getElem?_eq_getElem hlt
        refine wpOpIn_mono ?_ (hstep x W i ds[i] h2 hdi (fun j hj => h3 j (hdep j hj)))
        rintro a' W' ⟨v, rfl, hb, hv⟩
        refine ⟨updV x i v, ?_, .inl ⟨fun e => h1 (e.of_set (by omega)), h2.trans (hb.mono h2.size), fun j hj => ?_⟩⟩
        · rw [puts_put ds a0 0 i _ x _ hnd hdi, Nat.zero_add]
        · unfold updV
          split
          · rename_i e; rw [e]; exact hv
          · rename_i e; exact hmono _ _ _ _ hb (h3 j (hj.of_set (Ne.symm e)))
      · obtain rfl : i = ds.length := by omega
        have hon : ∀ j, j < ds.length → On l j := fun j hj => hdep j (hall j hj)
        refine wpOpIn_mono ?_ (hlast x W h2 (fun j hj => h3 j (hon j hj)))
        rintro a' W' ⟨rfl, hR⟩
        exact ⟨x, rfl, .inr ⟨fun j hj => (hon j hj).set, On.self (by omega), hR⟩⟩
    · exfalso
      by_cases hlt : i < ds.length
      · exact hno (h1 i hlt)
      · obtain rfl : i = ds.length := by omega
        exact hno h2
  · rintro l a W ⟨x, rfl, hJ⟩ hon
    rcases hJ with ⟨h1, _⟩ | ⟨_, _, hR⟩
    · exact absurd (hon ds.length (by omega)) h1
    · exact hdone x W hR
end
end Go.Proofs.YtekgdljbninjiaaDoor

/-! A region that draws its order, reads and calls, inside a round: its slots may hold anything. No program in sight. -/
namespace Go.Proofs.YtekgdljbninjiaaDoor
open Go Go.RowKit

theorem put_self (a : Act) (d : Nat) : a.put (some d) (a.tmps.getD d undef) = a := by
  simp only [Act.put]
  congr 1
  apply Array.ext_getElem?
  intro i
  rw [Array.getElem?_setIfInBounds, Array.getD_eq_getD_getElem?]
  by_cases h : d = i
  · subst h
    rw [if_pos rfl]
    by_cases h2 : d < a.tmps.size
    · rw [if_pos h2, Array.getElem?_eq_getElem h2]
      rfl
    · rw [if_neg h2, Array.getElem?_eq_none (by omega)]
  · rw [if_neg h]
theorem puts_start (a : Act) : ∀ (ds : List Nat) (k : Nat), putsV a ds k (fun j => a.tmps.getD (ds.getD (j - k) 0) undef) = a
  | [], _ => rfl
  | d :: ds, k => by
    rw [putsV]
    simp only [Nat.sub_self, List.getD_cons_zero]
    rw [put_self]
    refine (puts_congr ds a (k + 1) _ _ fun j hj => ?_).trans (puts_start a ds (k + 1))
    rw [show j - k = (j - (k + 1)) + 1 by omega, List.getD_cons_succ]

section
variable {F : Fence} {n : Nat} {P : Program} {ops : Array Oper} {Q : Exit → Act → World → Prop} {md : Region.Mode}
theorem anyIn_vals2 {a0 : Act} {w0 W0 : World} (V : Nat → Value) (ds : List Nat) (dep : Nat → List Nat) (hd : edgesB md ops dep = true) (hlen : ds.length = ops.size) (hnd : ds.Nodup)
    (hW : Below w0.heap.size w0 W0)
    (hstep : ∀ (x : Nat → Value) (W : World) (i d : Nat), Below w0.heap.size w0 W → ds[i]? = some d → (∀ j ∈ dep i, x j = V j) → wpOpIn F n P ops Q i (fun a' W' => a' = (putsV a0 ds 0 x).put (some d) (V i) ∧ Below W.heap.size W W') (putsV a0 ds 0 x) W)
    (hdone : ∀ W, Below w0.heap.size w0 W → Q .normal (putsV a0 ds 0 V) W) : wpAnyIn F n P md ops Q ops.size (Array.replicate ops.size false) a0 W0 := by
  refine anyIn_inv2 (Inv := fun l a W => ∃ x : Nat → Value, a = putsV a0 ds 0 x ∧ JV V w0 l W x) dep ops.size rfl hd ?_ ?_ _ _ _ _ (by simp) (by simp) ⟨_, (puts_start a0 ds 0).symm, JV.start _ _ _ _ hW _⟩
  · rintro l a W i _ ⟨x, rfl, hJ⟩ hi _ hdep
    have hi' : i < ds.length := by omega
    have hdi : ds[i]? = some ds[i] := List.getElem?_eq_getElem hi'
    refine wpOpIn_mono ?_ (hstep x W i ds[i] hJ.bel hdi (fun j hj => hJ.g j (hdep j hj)))
    rintro a' W' ⟨rfl, hb⟩
    refine ⟨updV x i (V i), ?_, hJ.next i W' hb _ rfl⟩
    rw [puts_put ds a0 0 i _ x _ hnd hdi, Nat.zero_add]
  · rintro l a W ⟨x, rfl, hJ⟩ hon
    have e : putsV a0 ds 0 x = putsV a0 ds 0 V := by
      have key : ∀ (ds' : List Nat) (b : Act) (k : Nat), k + ds'.length = ops.size → putsV b ds' k x = putsV b ds' k V := by
        intro ds'
        induction ds' with
        | nil => intro _ _ _; rfl
        | cons d ds' ih =>
          intro b k hk
          simp only [List.length_cons] at hk
          rw [putsV, putsV, hJ.g k (hon k (by omega)), ih _ _ (by omega)]
      exact key ds a0 0 (by omega)
    rw [e]
    exact hdone W hJ.bel
end
end Go.Proofs.YtekgdljbninjiaaDoor

/-! Single operations, guarded ones among them. No program in sight. -/
namespace Go.Proofs.YtekgdljbninjiaaDoor
open Go Go.RowKit

section
variable {F : Fence} {n : Nat} {P : Program} {ops : Array Oper} {Q : Exit → Act → World → Prop} {a : Act} {w : World}
theorem OI_off2 {i : Nat} {K : Act → World → Prop} (h1 : i < ops.size) (hw : Region.wanted ops[i] (yielded ops a.tmps) = false) (hab : ∀ f, ops[i].about P w a.eval = some f → F.fn f) (h : K (a.put ops[i].dst undef) w) : wpOpIn F n P ops Q i K a w := by
  unfold wpOpIn
  simp only [Array.getElem?_eq_getElem h1, hw]
  exact ⟨hab, h⟩
theorem OI_value2 {i : Nat} {K : Act → World → Prop} (h1 : i < ops.size) (hw : Region.wanted ops[i] (yielded ops a.tmps) = true) (hab : ops[i].about P w a.eval = none) (hd : ∀ c, ops[i].op ≠ .defer c) (v : Value) (w' : World)
    (he : (execOp a.eval ops[i]).run P w = .ok (.value v) w') (h : K (a.put ops[i].dst v) w') : wpOpIn F n P ops Q i K a w :=
  OI_value (Array.getElem?_eq_getElem h1) hw hab hd v w' he h
theorem OI_call2 {i : Nat} {K : Act → World → Prop} (h1 : i < ops.size) (hw : Region.wanted ops[i] (yielded ops a.tmps) = true) (hd : ∀ c, ops[i].op ≠ .defer c) (f : Nat) (args : Array Value) (hab : ∀ g, ops[i].about P w a.eval = some g → F.fn g)
    (he : (execOp a.eval ops[i]).run P w = .ok (.enter f args) w) (hn : 1 ≤ n) (hc : CallsIn F (n - 1) P f args w fun e w' => ∃ v, e = .returned v ∧ K (a.put ops[i].dst v) w') : wpOpIn F n P ops Q i K a w :=
  OI_call (Array.getElem?_eq_getElem h1) hw hd f args hab he hn hc
end
section
variable {P : Program} {a : Act} {o : Oper}
theorem run_midR (ty : TypeId) (x : Operand) (g off : Nat) (cs : Array Value) (d : TypeDesc) (ho : o.op = .load ty x) (hx : a.eval x = .pointer (some ⟨g, off, none⟩)) (hu : P.underlying ty = some d) (hd : d.isRow = true) (hi : (P.info? ty).map (·.size) = some cs.size) (W : World) (hc : W.rangeAt g off cs.toList) :
    (execOp a.eval o).run P W = .ok (.value (.agg cs)) W := by
  have h := run_loadAt_mid (P := P) W g off ty cs.toList d hc hu hd (by simpa using hi)
  unfold execOp
  simp only [ho, hx, Sem.run_bind, h, Result.andThen_ok, Sem.run_pure]
theorem run_atR (t e : TypeId) (m : Nat) (x ix : Operand) (g off len cap j : Nat) (ho : o.op = .indexAddr t x ix) (hx : a.eval x = .slice (some ⟨g, off, none⟩) len cap) (hix : a.eval ix = .int .i64 (j : Int))
    (hu : P.underlying t = some (.slice e)) (hi : (P.info? e).map (·.size) = some m) (hj : j < len) (W : World) : (execOp a.eval o).run P W = .ok (.value (.pointer (some ⟨g, off + j * m, none⟩))) W := by
  have hsz : (sizeOf e).run P W = .ok m W := by
    cases hq : P.info? e with
    | none => simp [hq] at hi
    | some i =>
      have : i.size = m := by simpa [hq] using hi
      simp [sizeOf, typeInfo, hq, this]
  unfold execOp
  simp [ho, hx, hix, Instr.indexAt, asIntOf, run_underlying hu, hj, hsz, Addr.add_mid]
theorem run_addU (t t' : TypeId) (x y : Operand) (m r s : Nat) (hs : s = m + r) (hm : s < 18446744073709551616) (ho : o.op = .binOp .add t x y t') (hx : a.eval x = .int .u64 (m : Int)) (hy : a.eval y = .int .u64 (r : Int)) (W : World) :
    (execOp a.eval o).run P W = .ok (.value (.int .u64 (s : Int))) W := by
  have hw : IntKind.u64.wrap ((m : Int) + (r : Int)) = (s : Int) := by rw [IntKind.wrap_u64]; omega
  unfold execOp
  simp only [ho, hx, hy]
  go_simp
theorem run_subU (t t' : TypeId) (x y : Operand) (m r s : Nat) (hs : m = s + r) (hm : m < 18446744073709551616) (ho : o.op = .binOp .sub t x y t') (hx : a.eval x = .int .u64 (m : Int)) (hy : a.eval y = .int .u64 (r : Int)) (W : World) :
    (execOp a.eval o).run P W = .ok (.value (.int .u64 (s : Int))) W := by
  have hw : IntKind.u64.wrap ((m : Int) - (r : Int)) = (s : Int) := by rw [IntKind.wrap_u64]; omega
  unfold execOp
  simp only [ho, hx, hy]
  go_simp
  rw [IntKind.wrap_u64]; omega
theorem run_subI (t t' : TypeId) (x y : Operand) (m r s : Nat) (hs : m = s + r) (hm : m < 9223372036854775808) (ho : o.op = .binOp .sub t x y t') (hx : a.eval x = .int .i64 (m : Int)) (hy : a.eval y = .int .i64 (r : Int)) (W : World) :
    (execOp a.eval o).run P W = .ok (.value (.int .i64 (s : Int))) W := by
  have hw : IntKind.i64.wrap ((m : Int) - (r : Int)) = (s : Int) := by rw [IntKind.wrap_i64]; omega
  unfold execOp
  simp only [ho, hx, hy]
  go_simp
  rw [IntKind.wrap_i64]; omega
theorem run_addI (t t' : TypeId) (x y : Operand) (m r s : Nat) (hs : s = m + r) (hm : s < 9223372036854775808) (ho : o.op = .binOp .add t x y t') (hx : a.eval x = .int .i64 (m : Int)) (hy : a.eval y = .int .i64 (r : Int)) (W : World) :
    (execOp a.eval o).run P W = .ok (.value (.int .i64 (s : Int))) W := by
  have hw : IntKind.i64.wrap ((m : Int) + (r : Int)) = (s : Int) := by rw [IntKind.wrap_i64]; omega
  unfold execOp
  simp only [ho, hx, hy]
  go_simp
theorem run_gtrI (t t' : TypeId) (x y : Operand) (m r : Nat) (b : Bool) (hb : b = decide (r < m)) (ho : o.op = .binOp .gtr t x y t') (hx : a.eval x = .int .i64 (m : Int)) (hy : a.eval y = .int .i64 (r : Int)) (W : World) :
    (execOp a.eval o).run P W = .ok (.value (.bool b)) W := by
  have hd : decide ((r : Int) < (m : Int)) = b := by rw [hb]; simp
  unfold execOp
  simp only [ho, hx, hy]
  go_simp
theorem run_leqU (t t' : TypeId) (x y : Operand) (m r : Nat) (b : Bool) (hb : b = decide (m ≤ r)) (ho : o.op = .binOp .leq t x y t') (hx : a.eval x = .int .u64 (m : Int)) (hy : a.eval y = .int .u64 (r : Int)) (W : World) :
    (execOp a.eval o).run P W = .ok (.value (.bool b)) W := by
  unfold execOp
  simp only [ho, hx, hy]
  go_simp
end
end Go.Proofs.YtekgdljbninjiaaDoor

/-! A drawn region whose last operation stores, with slots that held something ahead. Written by mktools9.py out of AeVals. -/
namespace Go.Proofs.YtekgdljbninjiaaDoor
open Go Go.RowKit
section
variable {F : Fence} {n : Nat} {P : Program} {ops : Array Oper} {Q : Exit → Act → World → Prop} {md : Region.Mode}
theorem anyIn_store2 {a0 : Act} {w0 W0 : World} (G : Nat → World → Value → Prop) (hmono : ∀ j W W' v, Below W.heap.size W W' → G j W v → G j W' v) (ds : List Nat) (dep : Nat → List Nat) (hd : edgesB md ops dep = true) (hlen : ds.length + 1 = ops.size) (hnd : ds.Nodup)
    (hall : ∀ j, j < ds.length → j ∈ dep ds.length)
    (hW : Below w0.heap.size w0 W0) (R : (Nat → Value) → World → Prop)
    (hstep : ∀ (x : Nat → Value) (W : World) (i d : Nat), Below w0.heap.size w0 W → ds[i]? = some d → (∀ j ∈ dep i, G j W (x j)) → wpOpIn F n P ops Q i (fun a' W' => ∃ v, a' = (putsV a0 ds 0 x).put (some d) v ∧ Below W.heap.size W W' ∧ G i W' v) (putsV a0 ds 0 x) W)
    (hlast : ∀ (x : Nat → Value) (W : World), Below w0.heap.size w0 W → (∀ j, j < ds.length → G j W (x j)) → wpOpIn F n P ops Q ds.length (fun a' W' => a' = putsV a0 ds 0 x ∧ R x W') (putsV a0 ds 0 x) W)
    (hdone : ∀ x W, R x W → Q .normal (putsV a0 ds 0 x) W) : wpAnyIn F n P md ops Q ops.size (Array.replicate ops.size false) a0 W0 := by
  refine anyIn_inv2 (Inv := fun l a W => ∃ x : Nat → Value, a = putsV a0 ds 0 x ∧ ((¬ On l ds.length ∧ Below w0.heap.size w0 W ∧ ∀ j, On l j → G j W (x j)) ∨ ((∀ j, j < ds.length → On l j) ∧ On l ds.length ∧ R x W))) dep ops.size rfl hd ?_ ?_ _ _ _ _ (by simp) (by simp) ⟨_, (puts_start a0 ds 0).symm, .inl ⟨On.none _ _, hW, fun _ hj => absurd hj (On.none _ _)⟩⟩
  · rintro l a W i hl ⟨x, rfl, hJ⟩ hi hno hdep
    rcases hJ with ⟨h1, h2, h3⟩ | ⟨h1, h2, _⟩
    · by_cases hlt : i < ds.length
      · have hdi : ds[i]? = some ds[i] := List.getElem?_eq_getElem hlt
        refine wpOpIn_mono ?_ (hstep x W i ds[i] h2 hdi (fun j hj => h3 j (hdep j hj)))
        rintro a' W' ⟨v, rfl, hb, hv⟩
        refine ⟨updV x i v, ?_, .inl ⟨fun e => h1 (e.of_set (by omega)), h2.trans (hb.mono h2.size), fun j hj => ?_⟩⟩
        · rw [puts_put ds a0 0 i _ x _ hnd hdi, Nat.zero_add]
        · unfold updV
          split
          · rename_i e; rw [e]; exact hv
          · rename_i e; exact hmono _ _ _ _ hb (h3 j (hj.of_set (Ne.symm e)))
      · obtain rfl : i = ds.length := by omega
        have hon : ∀ j, j < ds.length → On l j := fun j hj => hdep j (hall j hj)
        refine wpOpIn_mono ?_ (hlast x W h2 (fun j hj => h3 j (hon j hj)))
        rintro a' W' ⟨rfl, hR⟩
        exact ⟨x, rfl, .inr ⟨fun j hj => (hon j hj).set, On.self (by omega), hR⟩⟩
    · exfalso
      by_cases hlt : i < ds.length
      · exact hno (h1 i hlt)
      · obtain rfl : i = ds.length := by omega
        exact hno h2
  · rintro l a W ⟨x, rfl, hJ⟩ hon
    rcases hJ with ⟨h1, _⟩ | ⟨_, _, hR⟩
    · exact absurd (hon ds.length (by omega)) h1
    · exact hdone x W hR
end
section
variable {P : Program} {a : Act} {o : Oper}
theorem run_cellP (ty : TypeId) (x : Operand) (p : Addr) (v : Value) (d : TypeDesc) (ho : o.op = .load ty x) (hx : a.eval x = .pointer (some p)) (hu : P.underlying ty = some d) (hd : (match d with | .struct _ | .array _ _ => true | _ => false) = false)
    (W : World) (hv : W.cell? p = some v) : (execOp a.eval o).run P W = .ok (.value v) W := by
  have hag : (isAgg ty).run P W = .ok false W := by
    unfold isAgg
    rw [Sem.run_bind, run_underlying hu W]
    cases d <;> simp_all
  unfold execOp
  simp [ho, hx, Instr.loadAt, Instr.sureAddr, loadVar, hag, hv]
theorem run_atU (t e : TypeId) (m : Nat) (x ix : Operand) (g off len cap j : Nat) (ho : o.op = .indexAddr t x ix) (hx : a.eval x = .slice (some ⟨g, off, none⟩) len cap) (hix : a.eval ix = .int .u64 (j : Int))
    (hu : P.underlying t = some (.slice e)) (hi : (P.info? e).map (·.size) = some m) (hj : j < len) (W : World) : (execOp a.eval o).run P W = .ok (.value (.pointer (some ⟨g, off + j * m, none⟩))) W := by
  have hsz : (sizeOf e).run P W = .ok m W := by
    cases hq : P.info? e with
    | none => simp [hq] at hi
    | some i =>
      have : i.size = m := by simpa [hq] using hi
      simp [sizeOf, typeInfo, hq, this]
  unfold execOp
  simp [ho, hx, hix, Instr.indexAt, asIntOf, run_underlying hu, hj, hsz, Addr.add_mid]
theorem run_atU1 (t e : TypeId) (x ix : Operand) (g off len cap j : Nat) (ho : o.op = .indexAddr t x ix) (hx : a.eval x = .slice (some ⟨g, off, none⟩) len cap) (hix : a.eval ix = .int .u64 (j : Int))
    (hu : P.underlying t = some (.slice e)) (hi : (P.info? e).map (·.size) = some 1) (hj : j < len) (W : World) : (execOp a.eval o).run P W = .ok (.value (.pointer (some ⟨g, off + j, none⟩))) W := by
  have h := run_atU (a := a) (o := o) t e 1 x ix g off len cap j ho hx hix hu hi hj W
  rw [Nat.mul_one] at h
  exact h
theorem run_update (t : TypeId) (mo ko vo : Operand) (m : Value) (k v : Value) (ho : o.op = .mapUpdate t mo ko vo) (hm : a.eval mo = m) (hk : a.eval ko = k) (hv : a.eval vo = v) (W W' : World) (he : (Instr.mapUpdate t m k v).run P W = .ok () W') : (execOp a.eval o).run P W = .ok .skip W' := by
  unfold execOp
  simp [ho, hm, hk, hv, he, Result.andThen]
end
end Go.Proofs.YtekgdljbninjiaaDoor

/-! SHA-256 on lists of words and bytes: no program in sight. -/
namespace Go.Proofs.YtekgdljbninjiaaDoor
open Go

/-- The bytes of a word, the highest first. -/
def byteOf (x : Wd) (j : Nat) : By := (sr x (24 - 8 * j)).setWidth 8
theorem v8_byteOf (x : Wd) (j : Nat) : u (sr x (24 - 8 * j)) % 256 = v8 (byteOf x j) := by
  unfold u v8 byteOf
  rw [BitVec.toNat_setWidth]
  omega
/-- The bytes of words. -/
def sumB (s : List Wd) : List By := (List.range 32).map fun i => byteOf (gw s (i / 4)) (i % 4)
theorem sumB_length (s : List Wd) : (sumB s).length = 32 := by simp [sumB]
theorem sumB_get (s : List Wd) (i : Nat) (h : i < 32) : (sumB s)[i]? = some (byteOf (gw s (i / 4)) (i % 4)) := by simp [sumB, h]

/-- One by one: what has come, and nothing yet behind it. -/
theorem fill_set {α : Type} (l : List α) (z : α) (k n : Nat) (hl : l.length = n) (hk : k < n) (x : α) (hx : l[k]? = some x) :
    (l.take k ++ List.replicate (n - k) z).set k x = l.take (k + 1) ++ List.replicate (n - (k + 1)) z := by
  have hx' : l[k]'(by omega) = x := by
    rw [List.getElem?_eq_getElem (by omega)] at hx
    exact Option.some.inj hx
  rw [List.set_append_right k x (by simp; omega), List.take_succ_eq_append_getElem (by omega), hx']
  have e : n - k = (n - (k + 1)) + 1 := by omega
  simp only [List.length_take, show min k l.length = k by omega, Nat.sub_self, e, List.replicate_succ, List.set_cons_zero, List.append_assoc, List.singleton_append]

/-- The bits of f where e's are set, else those of g; those that at least two of a, b, c have. -/
def ch (e f g : Wd) : Wd := xr (an e f) (an (nt e) g)
def maj (a b c : Wd) : Wd := xr (xr (an a b) (an a c)) (an b c)
theorem ch_or (e f g : Wd) : oo (an e f) (an (nt e) g) = ch e f g := by
  unfold ch oo an nt xr
  apply BitVec.eq_of_getElem_eq
  intro i hi
  simp only [BitVec.getElem_or, BitVec.getElem_and, BitVec.getElem_not, BitVec.getElem_xor]
  cases e[i] <;> cases f[i] <;> cases g[i] <;> rfl
theorem maj_or (a b c : Wd) : oo (oo (an a b) (an a c)) (an b c) = maj a b c := by
  unfold maj oo an xr
  apply BitVec.eq_of_getElem_eq
  intro i hi
  simp only [BitVec.getElem_or, BitVec.getElem_and, BitVec.getElem_xor]
  cases a[i] <;> cases b[i] <;> cases c[i] <;> rfl
/-- Three taken against one another. -/
def S1 (e : Wd) : Wd := xr (xr (rr e 6) (rr e 11)) (rr e 25)
def S0 (a : Wd) : Wd := xr (xr (rr a 2) (rr a 13)) (rr a 22)
def s1 (x : Wd) : Wd := xr (xr (rr x 17) (rr x 19)) (sr x 10)
def s0 (y : Wd) : Wd := xr (xr (rr y 7) (rr y 18)) (sr y 3)
def T1 (e f g h kw : Wd) : Wd := ad (ad (ad h (S1 e)) (ch e f g)) kw
def T2 (a b c : Wd) : Wd := ad (S0 a) (maj a b c)
/-- One of the 64 turns. -/
def turnL (s : List Wd) (kw : Wd) : List Wd :=
  [ad (T1 (gw s 4) (gw s 5) (gw s 6) (gw s 7) kw) (T2 (gw s 0) (gw s 1) (gw s 2)), gw s 0, gw s 1, gw s 2, ad (gw s 3) (T1 (gw s 4) (gw s 5) (gw s 6) (gw s 7) kw), gw s 4, gw s 5, gw s 6]
theorem turnL_length (s : List Wd) (kw : Wd) : (turnL s kw).length = 8 := rfl
theorem eight {α : Type} {s : List α} (h : s.length = 8) : ∃ a b c d e f g i, s = [a, b, c, d, e, f, g, i] := by
  match s, h with
  | [a, b, c, d, e, f, g, i], _ => exact ⟨a, b, c, d, e, f, g, i, rfl⟩
end Go.Proofs.YtekgdljbninjiaaDoor

/-! The words of a block, on lists: no program in sight. -/
namespace Go.Proofs.YtekgdljbninjiaaDoor
open Go

/-- A byte as a word. -/
def ex (b : By) : Wd := b.setWidth 32
theorem v8_ex (b : By) : v8 b = u (ex b) := by
  have := b.isLt
  unfold v8 u ex
  rw [BitVec.toNat_setWidth]
  omega

/-- The word that bytes make, the highest first. -/
def wordUp (l : List By) : Wd := l.foldl (fun w c => oo (sl w 8) (ex c)) 0
theorem wordUp_snoc (l : List By) (c : By) : wordUp (l ++ [c]) = oo (sl (wordUp l) 8) (ex c) := by simp [wordUp]

/-- The words when i bytes have come. -/
def parts (b : List By) (i : Nat) : List Wd := (List.range 64).map fun q => wordUp ((b.drop (4 * q)).take (min 4 (i - 4 * q)))
theorem parts_length (b : List By) (i : Nat) : (parts b i).length = 64 := by simp [parts]
theorem parts_get (b : List By) (i q : Nat) (h : q < 64) : gw (parts b i) q = wordUp ((b.drop (4 * q)).take (min 4 (i - 4 * q))) := by simp [gw, parts, h]
theorem parts_zero (b : List By) : parts b 0 = List.replicate 64 0 := by
  apply List.ext_getElem
  · simp [parts]
  · intro j h1 h2
    rw [List.getElem_replicate]
    simp only [parts, List.getElem_map, Nat.zero_sub, Nat.min_zero, List.take_zero]
    rfl
theorem parts_step (b : List By) (i : Nat) (hb : b.length = 64) (hi : i < 64) : (parts b i).set (i / 4) (oo (sl (gw (parts b i) (i / 4)) 8) (ex (gb b i))) = parts b (i + 1) := by
  rw [parts_get b i (i / 4) (by omega)]
  apply List.ext_getElem
  · simp [parts]
  · intro j h1 h2
    rw [List.getElem_set]
    split
    · rename_i h
      subst h
      simp only [parts, List.getElem_map, List.getElem_range]
      have e1 : min 4 (i - 4 * (i / 4)) = i - 4 * (i / 4) := by omega
      have e2 : min 4 (i + 1 - 4 * (i / 4)) = i - 4 * (i / 4) + 1 := by omega
      rw [e1, e2, List.take_succ_eq_append_getElem (by simp; omega), wordUp_snoc]
      congr 2
      simp only [List.getElem_drop, gb]
      have aux : ∀ (k : Nat) (hk : k < b.length), k = i → b[i]?.getD 0 = b[k] := fun k hk e => by subst e; simp [hk]
      exact aux _ _ (by omega)
    · rename_i h
      simp only [parts, List.getElem_map, List.getElem_range]
      rw [show min 4 (i + 1 - 4 * j) = min 4 (i - 4 * j) by omega]

def first16 (b : List By) : List Wd := (List.range 16).map fun q => wordUp ((b.drop (4 * q)).take 4)
theorem first16_length (b : List By) : (first16 b).length = 16 := by simp [first16]
theorem parts_all (b : List By) : parts b 64 = first16 b ++ List.replicate 48 0 := by
  apply List.ext_getElem
  · simp [parts, first16]
  · intro j h1 h2
    have hj : j < 64 := by simpa [parts] using h1
    simp only [parts, List.getElem_map, List.getElem_range, List.getElem_append, first16_length]
    split
    · rename_i h
      simp only [first16, List.getElem_map, List.getElem_range]
      rw [show min 4 (64 - 4 * j) = 4 by omega]
    · rename_i h
      rw [show min 4 (64 - 4 * j) = 0 by omega, List.getElem_replicate, List.take_zero]
      rfl

/-- The word behind words. -/
def nextW (l : List Wd) : Wd := ad (ad (ad (s1 (gw l (l.length - 2))) (gw l (l.length - 7))) (s0 (gw l (l.length - 15)))) (gw l (l.length - 16))
def schedN (b : List By) : Nat → List Wd
  | 0 => first16 b
  | n + 1 => schedN b n ++ [nextW (schedN b n)]
theorem schedN_length (b : List By) : ∀ n, (schedN b n).length = 16 + n
  | 0 => first16_length b
  | n + 1 => by rw [schedN, List.length_append, schedN_length b n]; rfl
def sched (b : List By) : List Wd := schedN b 48
theorem sched_length (b : List By) : (sched b).length = 64 := schedN_length b 48
/-- The row while its words are reckoned. -/
def schedR (b : List By) (n : Nat) : List Wd := schedN b n ++ List.replicate (48 - n) 0
theorem schedR_length (b : List By) (n : Nat) (h : n ≤ 48) : (schedR b n).length = 64 := by simp [schedR, schedN_length]; omega
theorem schedR_get (b : List By) (n j : Nat) (h : j < 16 + n) : gw (schedR b n) j = gw (schedN b n) j := by
  unfold gw schedR
  rw [List.getElem?_append_left (by rw [schedN_length]; exact h)]
theorem schedR_step (b : List By) (n : Nat) (h : n < 48) : (schedR b n).set (16 + n) (ad (ad (ad (s1 (gw (schedR b n) (16 + n - 2))) (gw (schedR b n) (16 + n - 7))) (s0 (gw (schedR b n) (16 + n - 15)))) (gw (schedR b n) (16 + n - 16))) = schedR b (n + 1) := by
  rw [schedR_get b n _ (by omega), schedR_get b n _ (by omega), schedR_get b n _ (by omega), schedR_get b n _ (by omega)]
  have e : nextW (schedN b n) = ad (ad (ad (s1 (gw (schedN b n) (16 + n - 2))) (gw (schedN b n) (16 + n - 7))) (s0 (gw (schedN b n) (16 + n - 15)))) (gw (schedN b n) (16 + n - 16)) := by
    unfold nextW; rw [schedN_length]
  rw [← e]
  unfold schedR
  rw [List.set_append_right _ _ (by rw [schedN_length]; omega), schedN_length, show 48 - n = (48 - (n + 1)) + 1 by omega, List.replicate_succ, Nat.sub_self, List.set_cons_zero, schedN, List.append_assoc]
  rfl
theorem schedR_all (b : List By) : schedR b 48 = sched b := by simp [schedR, sched]
theorem schedR_zero (b : List By) : schedR b 0 = parts b 64 := by rw [parts_all]; rfl
end Go.Proofs.YtekgdljbninjiaaDoor

/-! A state, a block further, on lists: no program in sight. -/
namespace Go.Proofs.YtekgdljbninjiaaDoor
open Go

/-- The words a to h behind t turns. -/
def roundsTo (s k w : List Wd) : Nat → List Wd
  | 0 => s
  | t + 1 => turnL (roundsTo s k w t) (ad (gw k t) (gw w t))
theorem roundsTo_length (s k w : List Wd) (hs : s.length = 8) : ∀ t, (roundsTo s k w t).length = 8
  | 0 => hs
  | _ + 1 => rfl
/-- Each with what the other has, added. -/
def sumS (s n : List Wd) : List Wd := (List.range 8).map fun i => ad (gw s i) (gw n i)
theorem sumS_length (s n : List Wd) : (sumS s n).length = 8 := by simp [sumS]
theorem sumS_get (s n : List Wd) (i : Nat) (h : i < 8) : (sumS s n)[i]? = some (ad (gw s i) (gw n i)) := by simp [sumS, h]
theorem ad_comm (a b : Wd) : ad a b = ad b a := by unfold ad; exact BitVec.add_comm a b
theorem ad_assoc (a b c : Wd) : ad (ad a b) c = ad a (ad b c) := by unfold ad; exact BitVec.add_assoc a b c
/-- A state, a block further, by the words K. -/
def furtherL (s k : List Wd) (b : List By) : List Wd := sumS s (roundsTo s k (sched b) 64)
theorem furtherL_length (s k : List Wd) (b : List By) : (furtherL s k b).length = 8 := sumS_length _ _

/-- One by one: what has come, and behind it what was. -/
def mix {α : Type} (l r : List α) (i : Nat) : List α := l.take i ++ r.drop i
theorem mix_length {α : Type} (l r : List α) (i n : Nat) (hl : l.length = n) (hr : r.length = n) (hi : i ≤ n) : (mix l r i).length = n := by simp [mix, hl, hr]; omega
theorem mix_zero {α : Type} (l r : List α) : mix l r 0 = r := by simp [mix]
theorem mix_all {α : Type} (l r : List α) (n : Nat) (hl : l.length = n) (hr : r.length = n) : mix l r n = l := by
  unfold mix
  rw [List.take_of_length_le (by omega), List.drop_of_length_le (by omega), List.append_nil]
theorem mix_get {α : Type} (l r : List α) (i n : Nat) (hl : l.length = n) (hi : i < n) : (mix l r i)[i]? = r[i]? := by
  unfold mix
  rw [List.getElem?_append_right (by simp; omega), List.length_take, show min i l.length = i by omega, Nat.sub_self, List.getElem?_drop, Nat.add_zero]
theorem mix_set {α : Type} (l r : List α) (i n : Nat) (hl : l.length = n) (hr : r.length = n) (hi : i < n) (x : α) (hx : l[i]? = some x) : (mix l r i).set i x = mix l r (i + 1) := by
  have hx' : l[i]'(by omega) = x := by
    rw [List.getElem?_eq_getElem (by omega)] at hx
    exact Option.some.inj hx
  unfold mix
  rw [List.set_append_right i x (by simp; omega), List.take_succ_eq_append_getElem (by omega), hx', List.length_take, show min i l.length = i by omega, Nat.sub_self, List.drop_eq_getElem_cons (show i < r.length by omega), List.set_cons_zero, List.append_assoc]
  rfl
theorem gw_mix (l r : List Wd) (i n : Nat) (hl : l.length = n) (hi : i < n) : gw (mix l r i) i = gw r i := by unfold gw; rw [mix_get l r i n hl hi]
end Go.Proofs.YtekgdljbninjiaaDoor

/-! The first 64 primes, their roots, and how they are found: no program in sight. -/
namespace Go.Proofs.YtekgdljbninjiaaDoor
open Go

def P64 : List Nat := [2, 3, 5, 7, 11, 13, 17, 19, 23, 29, 31, 37, 41, 43, 47, 53, 59, 61, 67, 71, 73, 79, 83, 89, 97, 101, 103, 107, 109, 113, 127, 131, 137, 139, 149, 151, 157, 163, 167, 173, 179, 181, 191, 193, 197, 199, 211, 223, 227, 229, 233, 239, 241, 251, 257, 263, 269, 271, 277, 281, 283, 293, 307, 311]
def cubeRoots : List Nat := [5411319704, 6194414737, 7344290767, 8215976869, 9551921755, 10098905585, 11043570340, 11460697813, 12214315672, 13195500289, 13492127166, 14311783875, 14809980276, 15046980094, 15499789991, 16133124468, 16720292289, 16907126662, 17444216262, 17784676812, 17950125167, 18429019306, 18734950876, 19175934170, 19734090066, 20001703533, 20132865992, 20390182855, 20516441075, 20764397895, 21588763473, 21813078375, 22141143685, 22248366392, 22769593852, 22871018771, 23170020180, 23461497531, 23651862830, 23931792517, 24205322401, 24295138891, 24734567280, 24820601251, 24990902297, 25075189284, 25569408389, 26045227120, 26200031510, 26276752392, 26428864332, 26653801653, 26727943347, 27092625994, 27306805839, 27517677555, 27725365998, 27793908591, 27997534228, 28131656200, 28198240250, 28526537963, 28973835255, 29099129074]
def squareRoots : List Nat := [6074000999, 7439101573, 9603838834, 11363415354, 14244795007, 15485724812, 17708603819, 18721328409]
/-- The words K and H. -/
def KW : List Wd := [1116352408, 1899447441, 3049323471, 3921009573, 961987163, 1508970993, 2453635748, 2870763221, 3624381080, 310598401, 607225278, 1426881987, 1925078388, 2162078206, 2614888103, 3248222580, 3835390401, 4022224774, 264347078, 604807628, 770255983, 1249150122, 1555081692, 1996064986, 2554220882, 2821834349, 2952996808, 3210313671, 3336571891, 3584528711, 113926993, 338241895, 666307205, 773529912, 1294757372, 1396182291, 1695183700, 1986661051, 2177026350, 2456956037, 2730485921, 2820302411, 3259730800, 3345764771, 3516065817, 3600352804, 4094571909, 275423344, 430227734, 506948616, 659060556, 883997877, 958139571, 1322822218, 1537002063, 1747873779, 1955562222, 2024104815, 2227730452, 2361852424, 2428436474, 2756734187, 3204031479, 3329325298]
def HW : List Wd := [1779033703, 3144134277, 1013904242, 2773480762, 1359893119, 2600822924, 528734635, 1541459225]
theorem P64_length : P64.length = 64 := by decide +kernel
theorem KW_length : KW.length = 64 := by decide +kernel
theorem HW_length : HW.length = 8 := by decide +kernel

/-- How many primes lie below n. -/
def cntB (n : Nat) : Nat := (P64.filter fun p => decide (p < n)).length
/-- Does one of them divide n? -/
def comp (n : Nat) : Bool := (List.range (cntB n)).any fun j => n % gn P64 j == 0
theorem cntB_all : ∀ n, n < 313 → 2 ≤ n → cntB n ≤ 64 ∧ (n = 312 ↔ cntB n = 64) := by decide +kernel
theorem comp_all : ∀ n, n < 312 → 2 ≤ n → (comp n = true → cntB (n + 1) = cntB n) ∧ (comp n = false → cntB (n + 1) = cntB n + 1 ∧ P64[cntB n]? = some n) := by decide +kernel
theorem P64_bd : ∀ j, j < 64 → 2 ≤ gn P64 j ∧ gn P64 j ≤ 311 := by decide +kernel
theorem P64_bd8 : ∀ j, j < 8 → 2 ≤ gn P64 j ∧ gn P64 j ≤ 19 := by decide +kernel
theorem comp_yes (n j : Nat) (hj : j < cntB n) (h : n % gn P64 j = 0) : comp n = true := by
  unfold comp
  rw [List.any_eq_true]
  exact ⟨j, List.mem_range.2 hj, by simp [h]⟩
theorem comp_no (n : Nat) (h : ∀ j, j < cntB n → n % gn P64 j ≠ 0) : comp n = false := by
  unfold comp
  rw [List.any_eq_false]
  intro j hj
  simp [h j (List.mem_range.1 hj)]

/-- The row while primes are looked for. -/
def foundR (c : Nat) : List Nat := P64.take c ++ List.replicate (64 - c) 0
theorem foundR_length (c : Nat) (h : c ≤ 64) : (foundR c).length = 64 := by simp [foundR, P64_length]; omega
theorem foundR_get (c j : Nat) (hc : c ≤ 64) (h : j < c) : gn (foundR c) j = gn P64 j := by
  unfold gn foundR
  rw [List.getElem?_append_left (by rw [List.length_take, P64_length]; omega), List.getElem?_take, if_pos h]
theorem foundR_set (c n : Nat) (hc : c < 64) (h : P64[c]? = some n) : (foundR c).set c n = foundR (c + 1) := fill_set P64 0 c 64 P64_length hc n h
theorem foundR_all : foundR 64 = P64 := by
  unfold foundR
  rw [List.take_of_length_le (by rw [P64_length]; exact Nat.le_refl _)]
  simp

theorem cubeRoots_ok : ∀ j, j < 64 → gn P64 j * 79228162514264337593543950336 < (gn cubeRoots j + 1) * (gn cubeRoots j + 1) * (gn cubeRoots j + 1) ∧ gn cubeRoots j * gn cubeRoots j * gn cubeRoots j ≤ gn P64 j * 79228162514264337593543950336 ∧ gw KW j = BitVec.ofNat 32 (gn cubeRoots j) := by decide +kernel
theorem squareRoots_ok : ∀ j, j < 8 → gn P64 j * 18446744073709551616 < (gn squareRoots j + 1) * (gn squareRoots j + 1) ∧ gn squareRoots j * gn squareRoots j ≤ gn P64 j * 18446744073709551616 ∧ gw HW j = BitVec.ofNat 32 (gn squareRoots j) := by decide +kernel

theorem mono3 {a b : Nat} (h : a ≤ b) : a * a * a ≤ b * b * b := Nat.mul_le_mul (Nat.mul_le_mul h h) h
theorem cube_root_one (j r : Nat) (hj : j < 64) (h1 : r * r * r ≤ gn P64 j * 79228162514264337593543950336) (h2 : gn P64 j * 79228162514264337593543950336 < (r + 1) * (r + 1) * (r + 1)) : r = gn cubeRoots j := by
  obtain ⟨k2, k1, _⟩ := cubeRoots_ok j hj
  rcases Nat.lt_trichotomy r (gn cubeRoots j) with h | h | h
  · have := mono3 (show r + 1 ≤ gn cubeRoots j by omega); omega
  · exact h
  · have := mono3 (show gn cubeRoots j + 1 ≤ r by omega); omega
theorem square_root_one (j r : Nat) (hj : j < 8) (h1 : r * r ≤ gn P64 j * 18446744073709551616) (h2 : gn P64 j * 18446744073709551616 < (r + 1) * (r + 1)) : r = gn squareRoots j := by
  obtain ⟨k2, k1, _⟩ := squareRoots_ok j hj
  rcases Nat.lt_trichotomy r (gn squareRoots j) with h | h | h
  · have := Nat.mul_le_mul (show r + 1 ≤ gn squareRoots j by omega) (show r + 1 ≤ gn squareRoots j by omega); omega
  · exact h
  · have := Nat.mul_le_mul (show gn squareRoots j + 1 ≤ r by omega) (show gn squareRoots j + 1 ≤ r by omega); omega
end Go.Proofs.YtekgdljbninjiaaDoor

/-! The blocks of bytes, on lists: no program in sight. -/
namespace Go.Proofs.YtekgdljbninjiaaDoor
open Go

/-- 64 bytes. -/
abbrev Blk := { x : List By // x.length = 64 }
/-- The first 64 of bytes. -/
def mkBlk (l : List By) : Blk := ⟨(l ++ List.replicate 64 0).take 64, by simp⟩
theorem mkBlk_ge (l : List By) (h : 64 ≤ l.length) : (mkBlk l).1 = l.take 64 := by
  show (l ++ List.replicate 64 0).take 64 = l.take 64
  rw [List.take_append_of_le_length h]
theorem mkBlk_eq (l : List By) (h : l.length = 64) : (mkBlk l).1 = l := by rw [mkBlk_ge l (by omega), List.take_of_length_le (by omega)]

/-- How many bytes 00 stand behind the byte 80. -/
def padZ (n : Nat) : Nat := (119 - n % 64) % 64
theorem padZ_le (n : Nat) : padZ n ≤ 63 := by unfold padZ; omega
theorem padZ_mod (n : Nat) : (n + 1 + padZ n) % 64 = 56 := by unfold padZ; omega
/-- How many bits there are, as eight bytes. -/
def lenB (n : Nat) : List By := (List.range 8).map fun j => BitVec.ofNat 8 (8 * n / 2 ^ (8 * (7 - j)))
theorem lenB_length (n : Nat) : (lenB n).length = 8 := by simp [lenB]
theorem lenB_get (n j : Nat) (h : j < 8) : (lenB n)[j]? = some (BitVec.ofNat 8 (8 * n / 2 ^ (8 * (7 - j)))) := by simp [lenB, h]
/-- The bytes of the blocks. -/
def padL (b : List By) : List By := b ++ (128 :: (List.replicate (padZ b.length) 0 ++ lenB b.length))
theorem padL_length (b : List By) : (padL b).length = b.length + padZ b.length + 9 := by
  unfold padL
  rw [List.length_append, List.length_cons, List.length_append, List.length_replicate, lenB_length]
  omega
/-- How many blocks. -/
def nb (b : List By) : Nat := (b.length + padZ b.length + 9) / 64
theorem nb_mul (b : List By) : 64 * nb b = (padL b).length := by
  have := padZ_mod b.length
  rw [padL_length]
  unfold nb
  omega
/-- The blocks. -/
def blkAt (b : List By) (i : Nat) : Blk := mkBlk ((padL b).drop (64 * i))
def blkTo (b : List By) (k : Nat) : List Blk := (List.range k).map (blkAt b)
theorem blkTo_succ (b : List By) (k : Nat) : blkTo b (k + 1) = blkTo b k ++ [blkAt b k] := by unfold blkTo; rw [List.range_succ]; simp
theorem blkTo_length (b : List By) (k : Nat) : (blkTo b k).length = k := by simp [blkTo]
theorem blkAt_take (b : List By) (i : Nat) (h : i < nb b) : (blkAt b i).1 = ((padL b).drop (64 * i)).take 64 := by
  unfold blkAt
  exact mkBlk_ge _ (by rw [List.length_drop, ← nb_mul]; omega)
/-- A block within the bytes. -/
theorem blkAt_full (b : List By) (i : Nat) (h : 64 * i + 64 ≤ b.length) : (blkAt b i).1 = (b.drop (64 * i)).take 64 := by
  have hn : i < nb b := by unfold nb; omega
  rw [blkAt_take b i hn]
  unfold padL
  rw [List.drop_append_of_le_length (by omega), List.take_append_of_le_length (by rw [List.length_drop]; omega)]
theorem nb_small (b : List By) (h : b.length % 64 + 9 ≤ 64) : nb b = b.length / 64 + 1 := by unfold nb padZ; omega
theorem nb_great (b : List By) (h : 64 < b.length % 64 + 9) : nb b = b.length / 64 + 2 := by unfold nb padZ; omega
/-- The last block, where what is left and the length fit into one. -/
theorem blkAt_small (b : List By) (h : b.length % 64 + 9 ≤ 64) : (blkAt b (b.length / 64)).1 = b.drop (64 * (b.length / 64)) ++ (128 :: (List.replicate (55 - b.length % 64) 0 ++ lenB b.length)) := by
  rw [blkAt_take b _ (by rw [nb_small b h]; omega)]
  unfold padL
  have e : padZ b.length = 55 - b.length % 64 := by unfold padZ; omega
  rw [List.drop_append_of_le_length (by omega), e, List.take_of_length_le]
  simp only [List.length_append, List.length_drop, List.length_cons, List.length_replicate, lenB_length]
  omega
theorem blkAt_great (b : List By) (h : 64 < b.length % 64 + 9) : (blkAt b (b.length / 64)).1 = b.drop (64 * (b.length / 64)) ++ (128 :: List.replicate (63 - b.length % 64) 0) ∧ (blkAt b (b.length / 64 + 1)).1 = List.replicate 56 0 ++ lenB b.length := by
  have hn := nb_great b h
  have e : padZ b.length = (63 - b.length % 64) + 56 := by unfold padZ; omega
  have e2 : padL b = (b ++ (128 :: List.replicate (63 - b.length % 64) 0)) ++ (List.replicate 56 0 ++ lenB b.length) := by
    unfold padL
    rw [e, ← List.replicate_append_replicate]
    simp only [List.append_assoc, List.cons_append]
  have hl : (b ++ (128 :: List.replicate (63 - b.length % 64) 0)).length = 64 * (b.length / 64 + 1) := by
    simp only [List.length_append, List.length_cons, List.length_replicate]
    omega
  constructor
  · rw [blkAt_take b _ (by omega), e2, List.drop_append_of_le_length (by omega), List.take_append_of_le_length (by rw [List.length_drop, hl]; omega), List.take_of_length_le (by rw [List.length_drop, hl]; omega), List.drop_append_of_le_length (by omega)]
  · rw [blkAt_take b _ (by omega), e2, ← hl, List.drop_left, List.take_of_length_le (by simp [lenB_length])]

/-- The length goes into the last eight of 64 bytes, the lowest first. -/
def lenSet (l : List By) (n : Nat) : Nat → List By
  | 0 => l
  | k + 1 => (lenSet l n k).set (63 - k) (BitVec.ofNat 8 (8 * n / 2 ^ (8 * k)))
theorem lenSet_length (l : List By) (n k : Nat) : (lenSet l n k).length = l.length := by
  induction k with
  | zero => rfl
  | succ k ih => rw [lenSet, List.length_set, ih]
theorem lenSet_get (l : List By) (n : Nat) (hl : l.length = 64) : ∀ k, k ≤ 8 → ∀ j, (lenSet l n k)[j]? = if 64 - k ≤ j ∧ j < 64 then some (BitVec.ofNat 8 (8 * n / 2 ^ (8 * (63 - j)))) else l[j]?
  | 0, _, j => by
    rw [lenSet, if_neg (by omega)]
  | k + 1, h, j => by
    rw [lenSet, List.getElem?_set, lenSet_length, hl]
    by_cases hj : 63 - k = j
    · subst hj
      rw [if_pos rfl, if_pos (by omega), if_pos (by omega), show 63 - (63 - k) = k by omega]
    · rw [if_neg hj, lenSet_get l n hl k (by omega) j]
      by_cases h2 : 64 - k ≤ j ∧ j < 64
      · rw [if_pos h2, if_pos (by omega)]
      · rw [if_neg h2, if_neg (by omega)]
theorem lenSet_all (l : List By) (n : Nat) (hl : l.length = 64) : lenSet l n 8 = l.take 56 ++ lenB n := by
  apply List.ext_getElem?
  intro j
  rw [lenSet_get l n hl 8 (by omega) j]
  by_cases h : 56 ≤ j
  · rw [List.getElem?_append_right (by rw [List.length_take]; omega), List.length_take, show min 56 l.length = 56 by omega]
    by_cases h2 : j < 64
    · rw [if_pos (by omega), lenB_get n (j - 56) (by omega), show 7 - (j - 56) = 63 - j by omega]
    · rw [if_neg (by omega), List.getElem?_eq_none (by omega), List.getElem?_eq_none (by rw [lenB_length]; omega)]
  · rw [if_neg (by omega), List.getElem?_append_left (by rw [List.length_take]; omega), List.getElem?_take, if_pos (by omega)]
theorem set_128 (l : List By) (r : Nat) (hl : l.length = r) (hr : r < 64) : (l ++ List.replicate (64 - r) 0).set r 128 = l ++ (128 :: List.replicate (63 - r) 0) := by
  rw [List.set_append_right r _ (by omega), hl, Nat.sub_self, show 64 - r = (63 - r) + 1 by omega, List.replicate_succ, List.set_cons_zero]

theorem lenByte (i L k : Nat) : 8 * (64 * (i : Int) + (L : Int)) / 2 ^ (8 * k) % 256 = v8 (BitVec.ofNat 8 (8 * (64 * i + L) / 2 ^ (8 * k))) := by
  unfold v8
  rw [BitVec.toNat_ofNat]
  have e : 8 * (64 * (i : Int) + (L : Int)) / 2 ^ (8 * k) = ((8 * (64 * i + L) / 2 ^ (8 * k) : Nat) : Int) := by
    rw [Int.natCast_ediv, Int.natCast_pow]
    push_cast
    rfl
  rw [e]
  omega
/-- The state that blocks lead to; the sum. -/
def chain (s : List Wd) (l : List Blk) : List Wd := l.foldl (fun s x => furtherL s KW x.1) s
theorem chain_snoc (s : List Wd) (l : List Blk) (x : Blk) : chain s (l ++ [x]) = furtherL (chain s l) KW x.1 := by simp [chain]
theorem chain_length (s : List Wd) (hs : s.length = 8) (l : List Blk) : (chain s l).length = 8 := by
  rcases List.eq_nil_or_concat l with rfl | ⟨p, x, rfl⟩
  · exact hs
  · rw [List.concat_eq_append, chain_snoc]; exact furtherL_length _ _ _
def sumL (b : List By) : List By := sumB (chain HW (blkTo b (nb b)))
theorem sumL_length (b : List By) : (sumL b).length = 32 := sumB_length _
end Go.Proofs.YtekgdljbninjiaaDoor
