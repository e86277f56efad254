/-
  What follows of sets that are combined. No program in sight.
-/
import Derived.Test.YtalhfciiflcfbaaGreatDoorRgPlain
namespace Go.Proofs.YtalhfciiflcfbaaGreatDoor.Rg
open Go Fr

theorem comb_some {rule : Bool → Bool → Bool} (hr : rule false false = false) {a b : List (Nat × Nat)} (ha : setL a) (hb : setL b) : ∃ u, setL u ∧ (∀ n, hasL u n = rule (hasL a n) (hasL b n)) ∧ u.length ≤ a.length + b.length := by
  obtain ⟨t, _, h⟩ := st_finish (turns_up a ha) (turns_up b hb) (turns_bound a ha) (turns_bound b hb) _ 0 0 [] rfl (st_begin rule hr (turnsOf a) (turnsOf b))
  obtain ⟨h1, h2, h3⟩ := st_end hr ha hb h
  refine ⟨_, h1, h3, ?_⟩
  have := h.len
  rw [turns_length, turns_length] at this
  rw [pairs_length]
  omega
theorem comb_len {rule : Bool → Bool → Bool} (hr : rule false false = false) {a b o : List (Nat × Nat)} {E : Int} (h : Comb rule a b o E) (ha : setOk a) (hb : setOk b) (hl : a.length + b.length ≤ 64) : E = 0 ∧ o.length ≤ a.length + b.length := by
  obtain ⟨v, hv, hm, hlen⟩ := comb_some hr ha.2 hb.2
  rcases h with ⟨n, _, _⟩ | ⟨_, u, hu, hh, hc⟩
  · exact absurd ⟨ha, hb⟩ n
  · obtain rfl := set_unique hu hv (fun n => by rw [hh, hm])
    rcases hc with ⟨_, rfl, e⟩ | ⟨g, _, _⟩
    · exact ⟨e, hlen⟩
    · omega
theorem comb_ok {rule : Bool → Bool → Bool} {a b o : List (Nat × Nat)} (h : Comb rule a b o 0) : (setOk a ∧ setOk b) ∧ setOk o ∧ ∀ n, hasL o n = rule (hasL a n) (hasL b n) := by
  rcases h with ⟨_, _, e⟩ | ⟨y, u, hu, hh, hc⟩
  · exact absurd e (by decide)
  · rcases hc with ⟨g, rfl, _⟩ | ⟨_, _, e⟩
    · exact ⟨y, ⟨g, hu⟩, hh⟩
    · exact absurd e (by decide)
theorem comb_err {rule : Bool → Bool → Bool} {a b o : List (Nat × Nat)} {E : Int} (h : Comb rule a b o E) : (E = 0 ∨ E = 1 ∨ E = 6) ∧ (E = 1 ↔ ¬ (setOk a ∧ setOk b)) ∧ (E ≠ 0 → o = []) := by
  rcases h with ⟨n, e, rfl⟩ | ⟨y, u, hu, hh, hc⟩
  · exact ⟨.inr (.inl rfl), ⟨fun _ => n, fun _ => rfl⟩, fun _ => e⟩
  · rcases hc with ⟨g, rfl, rfl⟩ | ⟨_, e, rfl⟩
    · exact ⟨.inl rfl, ⟨fun h => absurd h (by decide), fun h => absurd y h⟩, fun h => absurd rfl h⟩
    · exact ⟨.inr (.inr rfl), ⟨fun h => absurd h (by decide), fun h => absurd y h⟩, fun _ => e⟩
theorem comb_same {rule : Bool → Bool → Bool} {a b o : List (Nat × Nat)} (ha : setOk a) (hb : setOk b) (ho : setOk o) (h : ∀ n, hasL o n = rule (hasL a n) (hasL b n)) : Comb rule a b o 0 :=
  .inr ⟨⟨ha, hb⟩, o, ho.2, h, .inl ⟨ho.1, rfl, rfl⟩⟩
theorem comb_congr {rule rule' : Bool → Bool → Bool} {a b a' b' o : List (Nat × Nat)} {E : Int} (h : Comb rule a b o E) (ha : setOk a ∧ setOk b) (hb : setOk a' ∧ setOk b') (e : ∀ n, rule (hasL a n) (hasL b n) = rule' (hasL a' n) (hasL b' n)) : Comb rule' a' b' o E := by
  rcases h with ⟨n, _, _⟩ | ⟨_, u, hu, hh, hc⟩
  · exact absurd ha n
  · exact .inr ⟨hb, u, hu, fun n => by rw [hh, e], hc⟩
theorem comb_small {rule : Bool → Bool → Bool} {a b o : List (Nat × Nat)} {E : Int} (h : Comb rule a b o E) : o.length ≤ 64 := by
  rcases h with ⟨_, rfl, _⟩ | ⟨_, u, _, _, hc⟩
  · exact Nat.zero_le _
  · rcases hc with ⟨g, rfl, _⟩ | ⟨_, rfl, _⟩
    · exact g
    · exact Nat.zero_le _
theorem setOk_one (x y : Nat) : setOk [(x, y)] ↔ x ≤ y ∧ y ≤ 4611686018427387903 := ⟨fun h => h.2, fun h => ⟨by simp, h⟩⟩
theorem hasL_one (x y n : Nat) : hasL [(x, y)] n = (decide (x ≤ n) && decide (n ≤ y)) := by simp [hasL]

/-! ### The laws -/
theorem add_again {l r a c : List (Nat × Nat)} {g : Int} (h : Comb orB l r a 0) (h' : Comb orB a r c g) : g = 0 ∧ c = a := by
  obtain ⟨⟨_, hr⟩, ho, hm⟩ := comb_ok h
  obtain ⟨e1, e2⟩ := comb_unique h' (comb_same ho hr ho fun n => by rw [hm]; unfold orB; cases hasL l n <;> cases hasL r n <;> rfl)
  exact ⟨e2, e1⟩
theorem cut_again {l r b c : List (Nat × Nat)} {g : Int} (h : Comb butB l r b 0) (h' : Comb butB b r c g) : g = 0 ∧ c = b := by
  obtain ⟨⟨_, hr⟩, ho, hm⟩ := comb_ok h
  obtain ⟨e1, e2⟩ := comb_unique h' (comb_same ho hr ho fun n => by rw [hm]; unfold butB; cases hasL l n <;> cases hasL r n <;> rfl)
  exact ⟨e2, e1⟩
theorem add_cut {l r a b d : List (Nat × Nat)} {f h : Int} (ha : Comb orB l r a 0) (hb : Comb butB l r b f) (hd : Comb butB a r d h) : h = f ∧ d = b := by
  obtain ⟨hs, ho, hm⟩ := comb_ok ha
  obtain ⟨e1, e2⟩ := comb_unique hd (comb_congr hb hs ⟨ho, hs.2⟩ fun n => by rw [hm]; unfold butB orB; cases hasL l n <;> cases hasL r n <;> rfl)
  exact ⟨e2, e1⟩
theorem meet_swap {l m a b : List (Nat × Nat)} {e f : Int} (ha : Comb andB l m a e) (hb : Comb andB m l b f) : a = b ∧ e = f := by
  by_cases hs : setOk l ∧ setOk m
  · exact comb_unique ha (comb_congr hb ⟨hs.2, hs.1⟩ hs fun n => by unfold andB; cases hasL l n <;> cases hasL m n <;> rfl)
  · rcases ha with ⟨_, rfl, rfl⟩ | ⟨y, _⟩
    · rcases hb with ⟨_, rfl, rfl⟩ | ⟨y, _⟩
      · exact ⟨rfl, rfl⟩
      · exact absurd ⟨y.2, y.1⟩ hs
    · exact absurd y hs
theorem meet_self {l c : List (Nat × Nat)} {g : Int} (h : Comb andB l l c g) : (setOk l → g = 0 ∧ c = l) ∧ (¬ setOk l → g = 1) :=
  ⟨fun hs => by
    obtain ⟨e1, e2⟩ := comb_unique h (comb_same hs hs hs fun n => by unfold andB; cases hasL l n <;> rfl)
    exact ⟨e2, e1⟩, fun hs => (comb_err h).2.1.2 fun y => hs y.1⟩
theorem add_swap {l r s a b x y : List (Nat × Nat)} {g h : Int} (ha : Comb orB l r a 0) (hb : Comb orB l s b 0) (hx : Comb orB a s x g) (hy : Comb orB b r y h) : x = y ∧ g = h := by
  obtain ⟨s1, o1, m1⟩ := comb_ok ha
  obtain ⟨s2, o2, m2⟩ := comb_ok hb
  exact comb_unique hx (comb_congr hy ⟨o2, s1.2⟩ ⟨o1, s2.2⟩ fun n => by rw [m1, m2]; unfold orB; cases hasL l n <;> cases hasL r n <;> cases hasL s n <;> rfl)
/-- Numbers, one by one. -/
theorem add_number {a x : List (Nat × Nat)} {n k : Nat} {E : Int} (hn : n < 256) (hk : k < 60) (ha : setOk a) (hl : a.length ≤ k) (h : Comb orB a [(n, n)] x E) : E = 0 ∧ setOk x ∧ x.length ≤ k + 1 ∧ ∀ m, hasL x m = (hasL a m || decide (m = n)) := by
  have hs : setOk [(n, n)] := (setOk_one n n).2 ⟨Nat.le_refl _, by omega⟩
  obtain ⟨rfl, h2⟩ := comb_len (rule := orB) rfl h ha hs (by rw [List.length_singleton]; omega)
  obtain ⟨_, h4, h5⟩ := comb_ok h
  refine ⟨rfl, h4, by rw [List.length_singleton] at h2; omega, fun m => ?_⟩
  rw [h5, hasL_one]
  unfold orB
  by_cases e : m = n
  · subst e; simp
  · rw [decide_eq_false e]
    by_cases g : n ≤ m
    · rw [decide_eq_false (show ¬ m ≤ n by omega)]; simp
    · rw [decide_eq_false g]; simp
end Go.Proofs.YtalhfciiflcfbaaGreatDoor.Rg
