/-
  Out of RgSet, RgCheck, LgHas.
-/
import Derived.Test.YtohoieleakieeaaGreatDoorGl1
import Derived.Test.YtohoieleakieeaaGreatDoorGl5

/-! Ranges that are a set, one by one. -/
namespace Go.Proofs.YtohoieleakieeaaGreatDoor
open Go Go.RowKit

/-- What a set's ranges are. -/
theorem set_at : ∀ (l : List (Nat × Nat)), Fr.setL l → ∀ j, j < l.length → (gr l j).1 ≤ (gr l j).2 ∧ (gr l j).2 ≤ 4611686018427387903 ∧ (j + 1 < l.length → (gr l j).2 + 1 < (gr l (j + 1)).1)
  | [], _, j, h => by simp at h
  | [(a, b)], hs, 0, _ => ⟨hs.1, hs.2, fun h => by simp at h⟩
  | [(a, b)], _, j + 1, h => by simp at h
  | (a, b) :: (c, d) :: r, hs, 0, _ => ⟨hs.1, hs.2.1, fun _ => hs.2.2.1⟩
  | (a, b) :: (c, d) :: r, hs, j + 1, h => by
    have := set_at ((c, d) :: r) hs.2.2.2 j (by simpa using h)
    have g : ∀ i, gr ((a, b) :: (c, d) :: r) (i + 1) = gr ((c, d) :: r) i := fun i => by simp [gr]
    rw [g, g]
    exact ⟨this.1, this.2.1, fun h' => this.2.2 (by simpa using h')⟩

/-- The first k ranges are as a set's are. -/
def setTo (l : List (Nat × Nat)) (k : Nat) : Prop := ∀ j, j < k → (gr l j).1 ≤ (gr l j).2 ∧ (gr l j).2 ≤ 4611686018427387903 ∧ (0 < j → (gr l (j - 1)).2 + 1 < (gr l j).1)
theorem setTo_L : ∀ (l : List (Nat × Nat)), setTo l l.length → Fr.setL l
  | [], _ => trivial
  | [(a, b)], h => ⟨(h 0 (by simp)).1, (h 0 (by simp)).2.1⟩
  | (a, b) :: (c, d) :: r, h => by
    have h0 := h 0 (by simp)
    have h1 := h 1 (by simp)
    refine ⟨h0.1, h0.2.1, h1.2.2 (by decide), setTo_L ((c, d) :: r) fun j hj => ?_⟩
    have hs := h (j + 1) (by simpa using hj)
    have g : ∀ i, gr ((a, b) :: (c, d) :: r) (i + 1) = gr ((c, d) :: r) i := fun i => by simp [gr]
    rw [g] at hs
    refine ⟨hs.1, hs.2.1, fun hp => ?_⟩
    have := hs.2.2 (by omega)
    rw [show j + 1 - 1 = (j - 1) + 1 by omega, g] at this
    exact this
theorem setTo_succ {l : List (Nat × Nat)} {k : Nat} (h : setTo l k) (h1 : (gr l k).1 ≤ (gr l k).2) (h2 : (gr l k).2 ≤ 4611686018427387903) (h3 : 0 < k → (gr l (k - 1)).2 + 1 < (gr l k).1) : setTo l (k + 1) := fun j hj => by
  rcases Nat.lt_or_ge j k with e | e
  · exact h j e
  · obtain rfl : j = k := by omega
    exact ⟨h1, h2, h3⟩
theorem setL_to (l : List (Nat × Nat)) (h : Fr.setL l) (k : Nat) (hk : k ≤ l.length) : setTo l k := fun j hj => by
  have h1 := set_at l h j (by omega)
  refine ⟨h1.1, h1.2.1, fun hp => ?_⟩
  have h2 := (set_at l h (j - 1) (by omega)).2.2 (by omega)
  rw [show j - 1 + 1 = j by omega] at h2
  exact h2

end Go.Proofs.YtohoieleakieeaaGreatDoor

/-! What ranges.Check answers. -/
namespace Go.Proofs.YtohoieleakieeaaGreatDoor
open Go Go.RowKit

theorem setOk_no {l : List (Nat × Nat)} {k : Nat} (hk : k < l.length) (hn : ¬ ((gr l k).1 ≤ (gr l k).2 ∧ (gr l k).2 ≤ 4611686018427387903 ∧ (0 < k → (gr l (k - 1)).2 + 1 < (gr l k).1))) : ¬ Rg.setOk l := fun h => hn (setL_to l h.2 (k + 1) (by omega) k (by omega))
set_option maxRecDepth 20000 in
set_option maxHeartbeats 4000000 in
theorem rg_check (s : RL) (w : World) (hs : s.Ok w) :
    Calls Tryz.prog 27 #[.slice s.a s.len s.cap] w fun e w' => (e = .returned (.bool true) ∧ Rg.setOk s.l ∨ e = .returned (.bool false) ∧ ¬ Rg.setOk s.l) ∧ Below w.heap.size w w' := by
  obtain ⟨a, len, cap, g, off, l⟩ := s
  have hll : l.length = len := hs.hb
  by_cases h64 : 64 < len
  · have e64 : decide ((len : Int) > 64) = true := by simp; omega
    have e64' : decide ((64 : Int) < (len : Int)) = true := by simp; omega
    have e64n : decide (64 < len) = true := by simp; omega
    have HH := veil (show ¬ Rg.setOk l from fun h => by have := h.1; omega)
    clear hs hll h64
    go_enter Tryz.func27, Tryz.ntmps27
    go_wp2_with fail
    go_ret
    exact ⟨.inr ⟨rfl, HH.out⟩, Below.refl _ _⟩
  have e64 : decide ((64 : Int) < (len : Int)) = false := by simp; omega
  have e64n : decide (64 < len) = false := by simp; omega
  have HP := veil hs
  have HL := veil hll
  have H64 := veil h64
  have hl64 : len ≤ 64 := by omega
  clear hs hll h64
  go_enter Tryz.func27, Tryz.ntmps27
  go_wp2_with fail
  go_loopw [10] (fun i wr => ∃ k : Nat, k ≤ len ∧ i = .int .i64 k ∧ setTo l k ∧ Below w.heap.size w wr)
    (fun i _ => len - (intOf i).toNat)
  case atStart => exact ⟨0, Nat.zero_le _, rfl, fun j hj => absurd hj (Nat.not_lt_zero _), Below.refl _ _⟩
  case round =>
    obtain ⟨k, hk, rfl, hto, hbel⟩ := hrel
    by_cases hlt : k < len
    · have e1 : a = some ⟨g, off, none⟩ := HP.out.at_ (show 0 < len by omega)
      subst e1
      obtain ⟨c1, c2⟩ := (HP.out.below hbel).cell k hlt
      have sm := HP.out.small k
      simp only at c1 c2 sm
      have HTO := veil hto
      have HLt := veil hlt
      have HB := veil hbel
      have HBa := veil (fun o => hbel.alloc hbel.size o)
      have HLT := veil ((HP.out.below hbel).lt (show 0 < len by omega))
      clear hto hbel
      have HBb := veil (fun o o' => (HBa.out o).alloc ((HBa.out o).size) o')
      have HNO := veil (setOk_no (l := l) (k := k) (by have := HL.out; omega))
      by_cases h1 : (gr l k).1 ≤ (gr l k).2
      · have f1 : decide (((gr l k).1 : Int) ≤ ((gr l k).2 : Int)) = true := by simp; omega
        by_cases h2 : (gr l k).2 ≤ 4611686018427387903
        · have f2 : decide (((gr l k).2 : Int) ≤ 4611686018427387903) = true := by simp; omega
          by_cases hk0 : k = 0
          · have f3 : decide ((0 : Int) < (k : Int)) = false := by simp; omega
            have f3n : decide (0 < k) = false := by simp; omega
            have HS := veil (setTo_succ HTO.out h1 h2 (fun h => by omega))
            clear h1 h2 hk0 HNO sm HTO
            generalize ((gr l k).1 : Int) = y at *
            generalize ((gr l k).2 : Int) = z at *
            go_wp2
            go_quiet (fail)
            go_wp2
            go_roundw
            case rel => exact ⟨k + 1, by have := HLt.out; omega, by go_num, HS.out, below_drewN (HBb.out _ _) _⟩
            case measure => have := HLt.out; simp [intOf]; omega
          · have f3 : decide ((0 : Int) < (k : Int)) = true := by simp; omega
            have f3n : decide (0 < k) = true := by simp; omega
            have hk1 : (k : Int) - 1 = ((k - 1 : Nat) : Int) := by omega
            have hk2 : k - 1 < len := by omega
            have hkw : IntKind.i64.wrap ((k - 1 : Nat) : Int) = ((k - 1 : Nat) : Int) := by have := H64.out; rw [IntKind.wrap_i64]; omega
            have hc4 : ∀ o o', (((wr.alloc o).alloc o').cell? ⟨g, off + (k - 1) * 2 + 1, none⟩) = some (.int .u64 ((gr l (k - 1)).2 : Int)) := fun o o' => ((HP.out.below (HBb.out o o')).cell (k - 1) hk2).2
            have HC4 := veil hc4
            have hp := (HTO.out (k - 1) (by omega)).2.1
            have hw : IntKind.u64.wrap (((gr l (k - 1)).2 : Int) + 2) = (((gr l (k - 1)).2 + 2 : Nat) : Int) := by rw [IntKind.wrap_u64]; omega
            clear hc4
            by_cases h3 : (gr l (k - 1)).2 + 1 < (gr l k).1
            · have f4 : decide (((gr l k).1 : Int) < (((gr l (k - 1)).2 + 2 : Nat) : Int)) = false := by simp; omega
              have HS := veil (setTo_succ HTO.out h1 h2 (fun _ => h3))
              clear h1 h2 h3 hk0 HNO sm HTO hp
              generalize (((gr l (k - 1)).2 + 2 : Nat) : Int) = p at *
              generalize ((gr l (k - 1)).2 : Int) = q at *
              generalize ((gr l k).1 : Int) = y at *
              generalize ((gr l k).2 : Int) = z at *
              have c4 := HC4.out (.cells #[.int .u64 y, .int .u64 z] 63) (.cells #[.int .u64 y, .int .u64 z] 63)
              go_wp2
              go_quiet (fail)
              go_wp2
              go_roundw
              case rel => exact ⟨k + 1, by have := HLt.out; omega, by go_num, HS.out, below_drewN (HBb.out _ _) _⟩
              case measure => have := HLt.out; simp [intOf]; omega
            · have f4 : decide (((gr l k).1 : Int) < (((gr l (k - 1)).2 + 2 : Nat) : Int)) = true := by simp; omega
              have HH := veil (HNO.out fun h => h3 (h.2.2 (by omega)))
              clear h1 h2 h3 hk0 HNO sm HTO hp
              generalize (((gr l (k - 1)).2 + 2 : Nat) : Int) = p at *
              generalize ((gr l (k - 1)).2 : Int) = q at *
              generalize ((gr l k).1 : Int) = y at *
              generalize ((gr l k).2 : Int) = z at *
              have c4 := HC4.out (.cells #[.int .u64 y, .int .u64 z] 63) (.cells #[.int .u64 y, .int .u64 z] 63)
              go_wp2
              go_quiet (fail)
              go_wp2
              go_ret
              exact ⟨.inr ⟨rfl, HH.out⟩, below_drewN (HBb.out _ _) _⟩
        · have f2 : decide (((gr l k).2 : Int) ≤ 4611686018427387903) = false := by simp; omega
          have HH := veil (HNO.out fun h => h2 h.2.1)
          clear h1 h2 HNO sm HTO
          generalize ((gr l k).1 : Int) = y at *
          generalize ((gr l k).2 : Int) = z at *
          go_wp2
          go_ret
          exact ⟨.inr ⟨rfl, HH.out⟩, HBb.out _ _⟩
      · have f1' : decide (((gr l k).1 : Int) ≤ ((gr l k).2 : Int)) = false := by simp; omega
        have HH := veil (HNO.out fun h => h1 h.1)
        clear h1 HNO sm
        generalize ((gr l k).1 : Int) = y at *
        generalize ((gr l k).2 : Int) = z at *
        go_wp2
        go_ret
        exact ⟨.inr ⟨rfl, HH.out⟩, HBb.out _ _⟩
    · obtain rfl : len = k := by omega
      have HH := veil (show Rg.setOk l from ⟨by have := HL.out; have := H64.out; omega, setTo_L l (by rw [HL.out]; exact hto)⟩)
      have HB := veil hbel
      clear hto hbel
      go_wp2
      go_ret
      exact ⟨.inl ⟨rfl, HH.out⟩, HB.out⟩
end Go.Proofs.YtohoieleakieeaaGreatDoor

/-! What ranges.Has answers. -/
namespace Go.Proofs.YtohoieleakieeaaGreatDoor
open Go Go.RowKit Go.Shelf

theorem has_yes {l : List (Nat × Nat)} {n k : Nat} (hk : k < l.length) (h1 : (gr l k).1 ≤ n) (h2 : n ≤ (gr l k).2) : Rg.hasL l n = true := by
  unfold Rg.hasL
  rw [List.any_eq_true]
  refine ⟨gr l k, ?_, ?_⟩
  · unfold gr; rw [List.getElem?_eq_getElem hk]; exact List.getElem_mem hk
  · rw [decide_eq_true h1, decide_eq_true h2]; rfl
theorem has_no {l : List (Nat × Nat)} {n : Nat} (h : ∀ k, k < l.length → ¬ ((gr l k).1 ≤ n ∧ n ≤ (gr l k).2)) : Rg.hasL l n = false := by
  unfold Rg.hasL
  rw [List.any_eq_false]
  intro r hr
  obtain ⟨k, hk, rfl⟩ := List.mem_iff_getElem.1 hr
  have := h k hk
  have e : gr l k = l[k] := by unfold gr; rw [List.getElem?_eq_getElem hk]; rfl
  rw [e] at this
  simp only [Bool.and_eq_true, decide_eq_true_eq]
  exact this
set_option maxRecDepth 20000 in
set_option maxHeartbeats 1000000 in
theorem rg_has (s : RL) (n : Nat) (w : World) (hs : s.Ok w) (hl : s.len ≤ 1048576) :
    Calls Tryz.prog 30 #[.slice s.a s.len s.cap, .int .u64 (n : Int)] w fun e w' => e = .returned (.bool (Rg.hasL s.l n)) ∧ Below w.heap.size w w' := by
  obtain ⟨a, len, cap, g, off, l⟩ := s
  have hll : l.length = len := hs.hb
  simp only at hl
  have HP := veil hs
  have HL := veil hll
  clear hs hll
  go_enter Tryz.func30, Tryz.ntmps30
  go_wp2_with fail
  go_loopw [9] (fun i wr => ∃ k : Nat, k ≤ len ∧ i = .int .i64 k ∧ (∀ j, j < k → ¬ ((gr l j).1 ≤ n ∧ n ≤ (gr l j).2)) ∧ Below w.heap.size w wr)
    (fun i _ => len - (intOf i).toNat)
  case atStart => exact ⟨0, Nat.zero_le _, rfl, fun j hj => absurd hj (Nat.not_lt_zero _), Below.refl _ _⟩
  case round =>
    obtain ⟨k, hk, rfl, hto, hbel⟩ := hrel
    by_cases hlt : k < len
    · have e1 : a = some ⟨g, off, none⟩ := HP.out.at_ (show 0 < len by omega)
      subst e1
      obtain ⟨c1, c2⟩ := (HP.out.below hbel).cell k hlt
      simp only at c1 c2
      have HTO := veil hto
      have HLt := veil hlt
      have HBa := veil (fun o => hbel.alloc hbel.size o)
      clear hto hbel
      by_cases h1 : (gr l k).1 ≤ n
      · have f1 : decide (((gr l k).1 : Int) ≤ (n : Int)) = true := by simp; omega
        by_cases h2 : n ≤ (gr l k).2
        · have f2 : decide ((n : Int) ≤ ((gr l k).2 : Int)) = true := by simp; omega
          have HH := veil (has_yes (l := l) (k := k) (by rw [HL.out]; exact hlt) h1 h2)
          clear h1 h2 HTO
          generalize ((gr l k).1 : Int) = y at *
          generalize ((gr l k).2 : Int) = z at *
          go_wp2
          go_ret
          exact ⟨by rw [HH.out]; rfl, HBa.out _⟩
        · have f2 : decide ((n : Int) ≤ ((gr l k).2 : Int)) = false := by simp; omega
          have HS := veil (show ∀ j, j < k + 1 → ¬ ((gr l j).1 ≤ n ∧ n ≤ (gr l j).2) from fun j hj => by
            rcases Nat.lt_or_ge j k with e | e
            · exact HTO.out j e
            · obtain rfl : j = k := by omega
              exact fun h => h2 h.2)
          clear h1 h2 HTO
          generalize ((gr l k).1 : Int) = y at *
          generalize ((gr l k).2 : Int) = z at *
          go_wp2
          go_roundw
          case rel => exact ⟨k + 1, by have := HLt.out; omega, by go_num, HS.out, HBa.out _⟩
          case measure => have := HLt.out; simp [intOf]; omega
      · have f1 : decide (((gr l k).1 : Int) ≤ (n : Int)) = false := by simp; omega
        have HS := veil (show ∀ j, j < k + 1 → ¬ ((gr l j).1 ≤ n ∧ n ≤ (gr l j).2) from fun j hj => by
          rcases Nat.lt_or_ge j k with e | e
          · exact HTO.out j e
          · obtain rfl : j = k := by omega
            exact fun h => h1 h.1)
        clear h1 HTO
        generalize ((gr l k).1 : Int) = y at *
        generalize ((gr l k).2 : Int) = z at *
        go_wp2
        go_roundw
        case rel => exact ⟨k + 1, by have := HLt.out; omega, by go_num, HS.out, HBa.out _⟩
        case measure => have := HLt.out; simp [intOf]; omega
    · obtain rfl : len = k := by omega
      have HH := veil (has_no (l := l) (n := n) (by rw [HL.out]; exact hto))
      have HB := veil hbel
      clear hto hbel
      go_wp2
      go_ret
      exact ⟨by rw [HH.out]; rfl, HB.out⟩
end Go.Proofs.YtohoieleakieeaaGreatDoor
