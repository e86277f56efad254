/-
  A region that draws its order, in which calls come one behind the other and each has one value, and all else has one value, whatever the order. No program in sight.
-/
import Derived.Test.YtoajnhngcfjohaaFrChain
namespace Go.Proofs.Ytoajnhngcfjohaa
open Go Go.RowKit

theorem put_none (a : Act) (v : Value) : a.put none v = a := rfl

section
variable {F : Fence} {n : Nat} {P : Program} {ops : Array Oper} {Q : Exit → Act → World → Prop} {md : Region.Mode}
theorem anyIn_seq {a0 : Act} {W0 : World} (V : Nat → Value) (R : Nat → World → Prop) (ch ds : List Nat) (dep : Nat → List Nat) (hd : edgesB md ops dep = true) (hlen : ds.length = ops.size) (hnd : ds.Nodup) (hchn : ch.Nodup)
    (hord : ∀ k i j, ch[k]? = some j → ch[k + 1]? = some i → j ∈ dep i)
    (hin : ∀ j ∈ ch, j < ops.size)
    (h0 : R 0 W0)
    (hfix : ∀ (x : Nat → Value) (W : World) (m i d : Nat), R m W → ds[i]? = some d → i ∉ ch → (∀ j ∈ dep i, x j = V j) → (∀ k j, ch[k]? = some j → j ∈ dep i → k < m) → (∀ k j, ch[k]? = some j → i ∈ dep j → m ≤ k) → wpOpIn F n P ops Q i (fun a' W' => a' = (putsV a0 ds 0 x).put (some d) (V i) ∧ R m W') (putsV a0 ds 0 x) W)
    (hcal : ∀ (x : Nat → Value) (W : World) (k i d : Nat), R k W → ch[k]? = some i → ds[i]? = some d → (∀ j ∈ dep i, x j = V j) → wpOpIn F n P ops Q i (fun a' W' => a' = (putsV a0 ds 0 x).put (some d) (V i) ∧ R (k + 1) W') (putsV a0 ds 0 x) W)
    (hdone : ∀ W : World, R ch.length W → Q .normal (putsV a0 ds 0 V) W) : wpAnyIn F n P md ops Q ops.size (Array.replicate ops.size false) a0 W0 := by
  refine anyIn_inv2 (Inv := fun l a W => ∃ (x : Nat → Value) (m : Nat), a = putsV a0 ds 0 x ∧ R m W ∧ (∀ j, On l j → x j = V j) ∧ (∀ j, On l j → ∀ i ∈ dep j, On l i) ∧ (∀ k j, ch[k]? = some j → (On l j ↔ k < m)) ∧ m ≤ ch.length) dep ops.size rfl hd ?_ ?_ _ _ _ _ (by simp) (by simp) ?_
  · rintro l a W i hl ⟨x, m, rfl, h1, h2, h4, h5, h6⟩ hi hno hdep
    have hi' : i < ds.length := by omega
    have hdi : ds[i]? = some ds[i] := List.getElem?_eq_getElem hi'
    have hfx : ∀ j ∈ dep i, x j = V j := fun j hj => h2 j (hdep j hj)
    have hon : ∀ j, On (l.setIfInBounds i true) j ↔ j = i ∨ On l j := by
      intro j
      constructor
      · intro h
        by_cases e : j = i
        · exact .inl e
        · exact .inr (h.of_set (Ne.symm e))
      · rintro (rfl | h)
        · exact On.self (by omega)
        · exact h.set
    have hcl : ∀ j, On (l.setIfInBounds i true) j → ∀ i' ∈ dep j, On (l.setIfInBounds i true) i' := by
      intro j hj q hq
      rcases (hon j).1 hj with rfl | hj
      · exact (hdep q hq).set
      · exact (h4 j hj q hq).set
    have hval : ∀ j, On (l.setIfInBounds i true) j → updV x i (V i) j = V j := by
      intro j hj
      unfold updV
      split
      · rename_i e; rw [e]
      · rename_i e; exact h2 j (((hon j).1 hj).resolve_left e)
    by_cases hc : i ∈ ch
    · obtain ⟨k, hk, hki⟩ := List.getElem_of_mem hc
      have hk' : ch[k]? = some i := by rw [List.getElem?_eq_getElem hk, hki]
      have hmk : m ≤ k := Nat.le_of_not_lt fun h => hno ((h5 k i hk').2 h)
      have hm : m = k := by
        cases k with
        | zero => omega
        | succ p =>
          have hp : ch[p]? = some ch[p] := List.getElem?_eq_getElem (by omega)
          have := (h5 p _ hp).1 (hdep _ (hord p i _ hp hk'))
          omega
      subst hm
      refine wpOpIn_mono ?_ (hcal x W m i ds[i] h1 hk' hdi hfx)
      rintro a' W' ⟨rfl, hR⟩
      refine ⟨updV x i (V i), m + 1, ?_, hR, hval, hcl, ?_, by omega⟩
      · rw [puts_put ds a0 0 i _ x _ hnd hdi, Nat.zero_add]
      · intro k j hkj
        rw [hon j, h5 k j hkj]
        constructor
        · rintro (rfl | h)
          · by_cases hkm : k < m
            · omega
            · by_cases hkm2 : m < k
              · obtain ⟨p1, p2⟩ := List.getElem?_eq_some_iff.1 hkj
                obtain ⟨q1, q2⟩ := List.getElem?_eq_some_iff.1 hk'
                exact absurd (q2.trans p2.symm) (List.pairwise_iff_getElem.1 hchn m k q1 p1 hkm2)
              · omega
          · omega
        · intro h
          by_cases hkm : k = m
          · subst hkm
            rw [hkj] at hk'
            exact .inl (Option.some.inj hk')
          · exact .inr (by omega)
    · refine wpOpIn_mono ?_ (hfix x W m i ds[i] h1 hdi hc hfx (fun k j hkj hj => (h5 k j hkj).1 (hdep j hj)) (fun k j hkj hij => Nat.le_of_not_lt fun h => hno (h4 j ((h5 k j hkj).2 h) i hij)))
      rintro a' W' ⟨rfl, hR⟩
      refine ⟨updV x i (V i), m, ?_, hR, hval, hcl, ?_, h6⟩
      · rw [puts_put ds a0 0 i _ x _ hnd hdi, Nat.zero_add]
      · intro k j hkj
        have hne : j ≠ i := fun e => hc (e ▸ List.mem_of_getElem? hkj)
        rw [hon j, ← h5 k j hkj]
        exact ⟨fun h => h.resolve_left hne, .inr⟩
  · rintro l a W ⟨x, m, rfl, h1, h2, h4, h5, h6⟩ hon
    have hm : m = ch.length := by
      rcases Nat.eq_or_lt_of_le h6 with e | e
      · exact e
      · have hp : ch[m]? = some ch[m] := List.getElem?_eq_getElem e
        have := (h5 m _ hp).1 (hon _ (hin _ (List.getElem_mem e)))
        omega
    subst hm
    have e : putsV a0 ds 0 x = putsV a0 ds 0 V := by
      have key : ∀ (ds' : List Nat) (b : Act) (k : Nat), k + ds'.length = ops.size → putsV b ds' k x = putsV b ds' k V := by
        intro ds'
        induction ds' with
        | nil => intro _ _ _; rfl
        | cons d ds' ih =>
          intro b k hk
          simp only [List.length_cons] at hk
          rw [putsV, putsV, h2 k (hon k (by omega)), ih _ _ (by omega)]
      exact key ds a0 0 (by omega)
    rw [e]
    exact hdone W h1
  · exact ⟨_, 0, (puts_start a0 ds 0).symm, h0, fun j hj => absurd hj (On.none _ _), fun j hj => absurd hj (On.none _ _), fun k j _ => ⟨fun h => absurd h (On.none _ _), fun h => absurd h (Nat.not_lt_zero _)⟩, Nat.zero_le _⟩
end
end Go.Proofs.Ytoajnhngcfjohaa
