/-
  A region that draws its order, in which calls hand a row of the call's own from one to the next, and all else only reads. No program in sight.
-/
import Derived.Test.YtoajnhngcfjohaaAeVals2
namespace Go.Proofs.Ytoajnhngcfjohaa
open Go Go.RowKit

section
variable {F : Fence} {n : Nat} {P : Program} {ops : Array Oper} {Q : Exit → Act → World → Prop} {md : Region.Mode}
/-- What lies in the slots ahead of the region. -/
def slot0 (a0 : Act) (ds : List Nat) (j : Nat) : Value := a0.tmps.getD (ds.getD j 0) undef
theorem anyIn_chain {a0 : Act} {w0 W0 : World} (K : World → World → Prop) (hK : ∀ a b c, K a b → K b c → K a c) (V : Nat → Value) (R : Nat → World → Value → Prop) (v0 : Value) (ch ds : List Nat) (dep : Nat → List Nat) (hd : edgesB md ops dep = true) (hlen : ds.length = ops.size) (hnd : ds.Nodup) (hchn : ch.Nodup)
    (hord : ∀ k i j, ch[k]? = some j → ch[k + 1]? = some i → j ∈ dep i)
    (h0 : R 0 W0 v0) (hK0 : K w0 W0)
    (hfix : ∀ (x : Nat → Value) (W : World) (i d : Nat), K w0 W → ds[i]? = some d → i ∉ ch → (∀ j ∈ dep i, j ∉ ch → x j = V j) → (∀ j, i = j ∨ i ∈ dep j → x j = slot0 a0 ds j) → wpOpIn F n P ops Q i (fun a' W' => a' = (putsV a0 ds 0 x).put (some d) (V i) ∧ W' = W) (putsV a0 ds 0 x) W)
    (hcal : ∀ (x : Nat → Value) (W : World) (k i d : Nat) (u : Value), K w0 W → ch[k]? = some i → ds[i]? = some d → (∀ j ∈ dep i, j ∉ ch → x j = V j) → (∀ j, i = j ∨ i ∈ dep j → x j = slot0 a0 ds j) → (k = 0 → u = v0) → (∀ p j, k = p + 1 → ch[p]? = some j → x j = u) → R k W u → wpOpIn F n P ops Q i (fun a' W' => ∃ v', a' = (putsV a0 ds 0 x).put (some d) v' ∧ K W W' ∧ R (k + 1) W' v') (putsV a0 ds 0 x) W)
    (hdone : ∀ (x : Nat → Value) (W : World) (u : Value), K w0 W → (∀ j, j < ops.size → j ∉ ch → x j = V j) → (∀ p j, ch.length = p + 1 → ch[p]? = some j → x j = u) → R ch.length W u → Q .normal (putsV a0 ds 0 x) W)
    (hin : ∀ j ∈ ch, j < ops.size) : wpAnyIn F n P md ops Q ops.size (Array.replicate ops.size false) a0 W0 := by
  refine anyIn_inv2 (Inv := fun l a W => ∃ (x : Nat → Value) (m : Nat) (u : Value), a = putsV a0 ds 0 x ∧ K w0 W ∧ (∀ j, On l j → j ∉ ch → x j = V j) ∧ (∀ j, ¬ On l j → x j = slot0 a0 ds j) ∧ (∀ j, On l j → ∀ i ∈ dep j, On l i) ∧ (∀ k j, ch[k]? = some j → (On l j ↔ k < m)) ∧ m ≤ ch.length ∧ R m W u ∧ (m = 0 → u = v0) ∧ (∀ p j, m = p + 1 → ch[p]? = some j → x j = u)) dep ops.size rfl hd ?_ ?_ _ _ _ _ (by simp) (by simp) ?_
  · rintro l a W i hl ⟨x, m, u, rfl, h1, h2, h3, h4, h5, h6, h7, h8, h9⟩ hi hno hdep
    have hi' : i < ds.length := by omega
    have hdi : ds[i]? = some ds[i] := List.getElem?_eq_getElem hi'
    have hsl : ∀ j, i = j ∨ i ∈ dep j → x j = slot0 a0 ds j := by
      intro j hj
      refine h3 j fun e => ?_
      rcases hj with rfl | hj
      · exact hno e
      · exact hno (h4 j e i hj)
    have hfx : ∀ j ∈ dep i, j ∉ ch → x j = V j := fun j hj hc => h2 j (hdep j hj) hc
    have hon : ∀ j, On (l.setIfInBounds i true) j ↔ j = i ∨ On l j := by
      intro j
      constructor
      · intro h
        by_cases e : j = i
        · exact .inl e
        · exact .inr (h.of_set (Ne.symm e))
      · rintro (rfl | h)
        · exact On.self (by omega)
        · exact h.set
    have hcl : ∀ j, On (l.setIfInBounds i true) j → ∀ i' ∈ dep j, On (l.setIfInBounds i true) i' := by
      intro j hj q hq
      rcases (hon j).1 hj with rfl | hj
      · exact (hdep q hq).set
      · exact (h4 j hj q hq).set
    by_cases hc : i ∈ ch
    · obtain ⟨k, hk, hki⟩ := List.getElem_of_mem hc
      have hk' : ch[k]? = some i := by rw [List.getElem?_eq_getElem hk, hki]
      have hmk : m ≤ k := Nat.le_of_not_lt fun h => hno ((h5 k i hk').2 h)
      have hm : m = k := by
        cases k with
        | zero => omega
        | succ p =>
          have hp : ch[p]? = some ch[p] := List.getElem?_eq_getElem (by omega)
          have := (h5 p _ hp).1 (hdep _ (hord p i _ hp hk'))
          omega
      subst hm
      refine wpOpIn_mono ?_ (hcal x W m i ds[i] u h1 hk' hdi hfx hsl h8 h9 h7)
      rintro a' W' ⟨v', rfl, hKW, hR⟩
      refine ⟨updV x i v', m + 1, v', ?_, hK _ _ _ h1 hKW, ?_, ?_, hcl, ?_, by omega, hR, fun e => by omega, ?_⟩
      · rw [puts_put ds a0 0 i _ x _ hnd hdi, Nat.zero_add]
      · intro j hj hjc
        have hne : j ≠ i := fun e => hjc (e ▸ hc)
        unfold updV
        rw [if_neg hne]
        exact h2 j (((hon j).1 hj).resolve_left hne) hjc
      · intro j hj
        have hne : j ≠ i := fun e => hj ((hon j).2 (.inl e))
        unfold updV
        rw [if_neg hne]
        exact h3 j fun e => hj ((hon j).2 (.inr e))
      · intro k j hkj
        rw [hon j, h5 k j hkj]
        constructor
        · rintro (rfl | h)
          · by_cases hkm : k < m
            · omega
            · by_cases hkm2 : m < k
              · obtain ⟨p1, p2⟩ := List.getElem?_eq_some_iff.1 hkj
                obtain ⟨q1, q2⟩ := List.getElem?_eq_some_iff.1 hk'
                exact absurd (q2.trans p2.symm) (List.pairwise_iff_getElem.1 hchn m k q1 p1 hkm2)
              · omega
          · omega
        · intro h
          by_cases hkm : k = m
          · subst hkm
            rw [hkj] at hk'
            exact .inl (Option.some.inj hk')
          · exact .inr (by omega)
      · intro p j hp hpj
        obtain rfl : m = p := by omega
        rw [hk'] at hpj
        obtain rfl := Option.some.inj hpj
        unfold updV
        rw [if_pos rfl]
    · refine wpOpIn_mono ?_ (hfix x W i ds[i] h1 hdi hc hfx hsl)
      rintro a' W' ⟨rfl, rfl⟩
      refine ⟨updV x i (V i), m, u, ?_, h1, ?_, ?_, hcl, ?_, h6, h7, h8, ?_⟩
      · rw [puts_put ds a0 0 i _ x _ hnd hdi, Nat.zero_add]
      · intro j hj hjc
        unfold updV
        split
        · rename_i e; rw [e]
        · rename_i e; exact h2 j (((hon j).1 hj).resolve_left e) hjc
      · intro j hj
        have hne : j ≠ i := fun e => hj ((hon j).2 (.inl e))
        unfold updV
        rw [if_neg hne]
        exact h3 j fun e => hj ((hon j).2 (.inr e))
      · intro k j hkj
        have hne : j ≠ i := fun e => hc (e ▸ List.mem_of_getElem? hkj)
        rw [hon j, ← h5 k j hkj]
        exact ⟨fun h => h.resolve_left hne, .inr⟩
      · intro p j hp hpj
        have hne : j ≠ i := fun e => hc (e ▸ List.mem_of_getElem? hpj)
        unfold updV
        rw [if_neg hne]
        exact h9 p j hp hpj
  · rintro l a W ⟨x, m, u, rfl, h1, h2, h3, h4, h5, h6, h7, h8, h9⟩ hon
    have hm : m = ch.length := by
      rcases Nat.eq_or_lt_of_le h6 with e | e
      · exact e
      · have hp : ch[m]? = some ch[m] := List.getElem?_eq_getElem e
        have := (h5 m _ hp).1 (hon _ (hin _ (List.getElem_mem e)))
        omega
    subst hm
    exact hdone x W u h1 (fun j hj hjc => h2 j (hon j hj) hjc) h9 h7
  · refine ⟨_, 0, v0, (puts_start a0 ds 0).symm, hK0, fun j hj => absurd hj (On.none _ _), fun j _ => rfl, fun j hj => absurd hj (On.none _ _), fun k j _ => ⟨fun h => absurd h (On.none _ _), fun h => absurd h (Nat.not_lt_zero _)⟩, Nat.zero_le _, h0, fun _ => rfl, fun p j h => by omega⟩
end
end Go.Proofs.Ytoajnhngcfjohaa
