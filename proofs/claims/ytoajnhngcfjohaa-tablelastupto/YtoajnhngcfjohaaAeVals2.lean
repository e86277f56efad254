/-
  A region that draws its order, reads and calls, inside a round: its slots may hold anything. No program in sight.
-/
import Derived.Test.YtoajnhngcfjohaaAeVals
namespace Go.Proofs.Ytoajnhngcfjohaa
open Go Go.RowKit

theorem put_self (a : Act) (d : Nat) : a.put (some d) (a.tmps.getD d undef) = a := by
  simp only [Act.put]
  congr 1
  apply Array.ext_getElem?
  intro i
  rw [Array.getElem?_setIfInBounds, Array.getD_eq_getD_getElem?]
  by_cases h : d = i
  · subst h
    rw [if_pos rfl]
    by_cases h2 : d < a.tmps.size
    · rw [if_pos h2, Array.getElem?_eq_getElem h2]
      rfl
    · rw [if_neg h2, Array.getElem?_eq_none (by omega)]
  · rw [if_neg h]
theorem puts_start (a : Act) : ∀ (ds : List Nat) (k : Nat), putsV a ds k (fun j => a.tmps.getD (ds.getD (j - k) 0) undef) = a
  | [], _ => rfl
  | d :: ds, k => by
    rw [putsV]
    simp only [Nat.sub_self, List.getD_cons_zero]
    rw [put_self]
    refine (puts_congr ds a (k + 1) _ _ fun j hj => ?_).trans (puts_start a ds (k + 1))
    rw [show j - k = (j - (k + 1)) + 1 by omega, List.getD_cons_succ]

section
variable {F : Fence} {n : Nat} {P : Program} {ops : Array Oper} {Q : Exit → Act → World → Prop} {md : Region.Mode}
theorem anyIn_vals2 {a0 : Act} {w0 W0 : World} (V : Nat → Value) (ds : List Nat) (dep : Nat → List Nat) (hd : edgesB md ops dep = true) (hlen : ds.length = ops.size) (hnd : ds.Nodup)
    (hW : Below w0.heap.size w0 W0)
    (hstep : ∀ (x : Nat → Value) (W : World) (i d : Nat), Below w0.heap.size w0 W → ds[i]? = some d → (∀ j ∈ dep i, x j = V j) → wpOpIn F n P ops Q i (fun a' W' => a' = (putsV a0 ds 0 x).put (some d) (V i) ∧ Below W.heap.size W W') (putsV a0 ds 0 x) W)
    (hdone : ∀ W, Below w0.heap.size w0 W → Q .normal (putsV a0 ds 0 V) W) : wpAnyIn F n P md ops Q ops.size (Array.replicate ops.size false) a0 W0 := by
  refine anyIn_inv2 (Inv := fun l a W => ∃ x : Nat → Value, a = putsV a0 ds 0 x ∧ JV V w0 l W x) dep ops.size rfl hd ?_ ?_ _ _ _ _ (by simp) (by simp) ⟨_, (puts_start a0 ds 0).symm, JV.start _ _ _ _ hW _⟩
  · rintro l a W i _ ⟨x, rfl, hJ⟩ hi _ hdep
    have hi' : i < ds.length := by omega
    have hdi : ds[i]? = some ds[i] := List.getElem?_eq_getElem hi'
    refine wpOpIn_mono ?_ (hstep x W i ds[i] hJ.bel hdi (fun j hj => hJ.g j (hdep j hj)))
    rintro a' W' ⟨rfl, hb⟩
    refine ⟨updV x i (V i), ?_, hJ.next i W' hb _ rfl⟩
    rw [puts_put ds a0 0 i _ x _ hnd hdi, Nat.zero_add]
  · rintro l a W ⟨x, rfl, hJ⟩ hon
    have e : putsV a0 ds 0 x = putsV a0 ds 0 V := by
      have key : ∀ (ds' : List Nat) (b : Act) (k : Nat), k + ds'.length = ops.size → putsV b ds' k x = putsV b ds' k V := by
        intro ds'
        induction ds' with
        | nil => intro _ _ _; rfl
        | cons d ds' ih =>
          intro b k hk
          simp only [List.length_cons] at hk
          rw [putsV, putsV, hJ.g k (hon k (by omega)), ih _ _ (by omega)]
      exact key ds a0 0 (by omega)
    rw [e]
    exact hdone W hJ.bel
end
end Go.Proofs.Ytoajnhngcfjohaa
