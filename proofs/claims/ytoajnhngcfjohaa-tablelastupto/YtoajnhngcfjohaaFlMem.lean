/-
  A region that draws its order: reads, a call, one store, and what comes behind it. No program in sight.
-/
import Derived.Test.YtoajnhngcfjohaaPkVals
namespace Go.Proofs.Ytoajnhngcfjohaa
open Go Go.RowKit

section
variable {F : Fence} {n : Nat} {P : Program} {ops : Array Oper} {Q : Exit → Act → World → Prop} {md : Region.Mode}
theorem anyIn_mem {a0 : Act} {W0 : World} (G : Nat → Value → Prop) (I J : World → Prop) (st : Nat) (pre : Nat → Bool) (ds : List Nat) (dep : Nat → List Nat) (hd : edgesB md ops dep = true) (hlen : ds.length = ops.size) (hnd : ds.Nodup)
    (hst : st < ds.length) (hps : pre st = false) (hall : ∀ j, pre j = true → j ∈ dep st) (hI : I W0)
    (hstep : ∀ (x : Nat → Value) (W : World) (i d : Nat), pre i = true → I W → ds[i]? = some d → (∀ j ∈ dep i, G j (x j)) → wpOpIn F n P ops Q i (fun a' W' => ∃ v, a' = (putsV a0 ds 0 x).put (some d) v ∧ I W' ∧ G i v) (putsV a0 ds 0 x) W)
    (hstore : ∀ (x : Nat → Value) (W : World), I W → (∀ j, pre j = true → G j (x j)) → wpOpIn F n P ops Q st (fun a' W' => a' = putsV a0 ds 0 x ∧ J W') (putsV a0 ds 0 x) W)
    (hafter : ∀ (x : Nat → Value) (W : World) (i d : Nat), pre i = false → i ≠ st → ds[i]? = some d → (∀ j ∈ dep i, j ≠ st → G j (x j)) → wpOpIn F n P ops Q i (fun a' W' => ∃ v, a' = (putsV a0 ds 0 x).put (some d) v ∧ W' = W ∧ G i v) (putsV a0 ds 0 x) W)
    (hdone : ∀ x W, J W → (∀ j, j < ds.length → j ≠ st → G j (x j)) → Q .normal (putsV a0 ds 0 x) W) : wpAnyIn F n P md ops Q ops.size (Array.replicate ops.size false) a0 W0 := by
  refine anyIn_inv2 (Inv := fun l a W => ∃ x : Nat → Value, a = putsV a0 ds 0 x ∧ (∀ j, On l j → j ≠ st → G j (x j)) ∧ ((¬ On l st ∧ I W) ∨ (On l st ∧ (∀ j, pre j = true → On l j) ∧ J W))) dep ops.size rfl hd ?_ ?_ _ _ _ _ (by simp) (by simp) ⟨_, (puts_start a0 ds 0).symm, fun _ hj => absurd hj (On.none _ _), .inl ⟨On.none _ _, hI⟩⟩
  · rintro l a W i hl ⟨x, rfl, hG, hJ⟩ hi hno hdep
    have hlt : i < ds.length := by omega
    have hdi : ds[i]? = some ds[i] := List.getElem?_eq_getElem hlt
    have upd : ∀ v, G i v → ∀ j, On (l.setIfInBounds i true) j → j ≠ st → G j (updV x i v j) := by
      intro v hv j hj hne
      unfold updV
      split
      · rename_i e; rw [e]; exact hv
      · rename_i e; exact hG j (hj.of_set (Ne.symm e)) hne
    by_cases h : pre i = true
    · have hne : i ≠ st := fun e => by rw [e, hps] at h; cases h
      rcases hJ with ⟨h1, h2⟩ | ⟨_, h2, _⟩
      · refine wpOpIn_mono ?_ (hstep x W i ds[i] h h2 hdi (fun j hj => ?_))
        · rintro a' W' ⟨v, rfl, hI', hv⟩
          refine ⟨updV x i v, by rw [puts_put ds a0 0 i _ x _ hnd hdi, Nat.zero_add], upd v hv, .inl ⟨fun e => h1 (e.of_set (by omega)), hI'⟩⟩
        · have hj' := hdep j hj
          refine hG j hj' (fun e => ?_)
          rw [e] at hj'
          exact h1 hj'
      · exact absurd (h2 i h) hno
    by_cases hs : i = st
    · subst hs
      rcases hJ with ⟨h1, h2⟩ | ⟨h1, _⟩
      · have hon : ∀ j, pre j = true → On l j := fun j hj => hdep j (hall j hj)
        refine wpOpIn_mono ?_ (hstore x W h2 (fun j hj => hG j (hon j hj) (fun e => by rw [e, hps] at hj; cases hj)))
        rintro a' W' ⟨rfl, hJ'⟩
        exact ⟨x, rfl, fun j hj hne => hG j (hj.of_set (Ne.symm hne)) hne, .inr ⟨On.self (by omega), fun j hj => (hon j hj).set, hJ'⟩⟩
      · exact absurd h1 hno
    · refine wpOpIn_mono ?_ (hafter x W i ds[i] (by simpa using h) hs hdi (fun j hj hne => hG j (hdep j hj) hne))
      rintro a' W' ⟨v, rfl, rfl, hv⟩
      refine ⟨updV x i v, by rw [puts_put ds a0 0 i _ x _ hnd hdi, Nat.zero_add], upd v hv, ?_⟩
      rcases hJ with ⟨h1, h2⟩ | ⟨h1, h2, h3⟩
      · exact .inl ⟨fun e => h1 (e.of_set (by omega)), h2⟩
      · exact .inr ⟨h1.set, fun j hj => (h2 j hj).set, h3⟩
  · rintro l a W ⟨x, rfl, hG, hJ⟩ hon
    rcases hJ with ⟨h1, _⟩ | ⟨_, _, h3⟩
    · exact absurd (hon st (by omega)) h1
    · exact hdone x W h3 (fun j hj hne => hG j (hon j (by omega)) hne)
end
end Go.Proofs.Ytoajnhngcfjohaa
