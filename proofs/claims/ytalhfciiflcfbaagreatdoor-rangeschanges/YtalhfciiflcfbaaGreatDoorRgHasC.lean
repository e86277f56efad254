/-
  What ranges.Has answers.
-/
import Derived.Test.YtalhfciiflcfbaaGreatDoorRgAdd
namespace Go.Proofs.YtalhfciiflcfbaaGreatDoor
open Go Go.RowKit Go.Shelf

theorem has_yes {l : List (Nat × Nat)} {n k : Nat} (hk : k < l.length) (h1 : (gr l k).1 ≤ n) (h2 : n ≤ (gr l k).2) : Rg.hasL l n = true := by
  unfold Rg.hasL
  rw [List.any_eq_true]
  refine ⟨gr l k, ?_, ?_⟩
  · unfold gr; rw [List.getElem?_eq_getElem hk]; exact List.getElem_mem hk
  · rw [decide_eq_true h1, decide_eq_true h2]; rfl
theorem has_no {l : List (Nat × Nat)} {n : Nat} (h : ∀ k, k < l.length → ¬ ((gr l k).1 ≤ n ∧ n ≤ (gr l k).2)) : Rg.hasL l n = false := by
  unfold Rg.hasL
  rw [List.any_eq_false]
  intro r hr
  obtain ⟨k, hk, rfl⟩ := List.mem_iff_getElem.1 hr
  have := h k hk
  have e : gr l k = l[k] := by unfold gr; rw [List.getElem?_eq_getElem hk]; rfl
  rw [e] at this
  simp only [Bool.and_eq_true, decide_eq_true_eq]
  exact this
set_option maxRecDepth 20000 in
set_option maxHeartbeats 1000000 in
theorem rg_has (s : RL) (n : Nat) (w : World) (hs : s.Ok w) (hl : s.len ≤ 1048576) :
    Calls Tryz.prog 21 #[.slice s.a s.len s.cap, .int .u64 (n : Int)] w fun e w' => e = .returned (.bool (Rg.hasL s.l n)) ∧ Below w.heap.size w w' := by
  obtain ⟨a, len, cap, g, off, l⟩ := s
  have hll : l.length = len := hs.hb
  simp only at hl
  have HP := veil hs
  have HL := veil hll
  clear hs hll
  go_enter Tryz.func21, Tryz.ntmps21
  go_wp2_with fail
  go_loopw [9] (fun i wr => ∃ k : Nat, k ≤ len ∧ i = .int .i64 k ∧ (∀ j, j < k → ¬ ((gr l j).1 ≤ n ∧ n ≤ (gr l j).2)) ∧ Below w.heap.size w wr)
    (fun i _ => len - (intOf i).toNat)
  case atStart => exact ⟨0, Nat.zero_le _, rfl, fun j hj => absurd hj (Nat.not_lt_zero _), Below.refl _ _⟩
  case round =>
    obtain ⟨k, hk, rfl, hto, hbel⟩ := hrel
    by_cases hlt : k < len
    · have e1 : a = some ⟨g, off, none⟩ := HP.out.at_ (show 0 < len by omega)
      subst e1
      obtain ⟨c1, c2⟩ := (HP.out.below hbel).cell k hlt
      simp only at c1 c2
      have HTO := veil hto
      have HLt := veil hlt
      have HBa := veil (fun o => hbel.alloc hbel.size o)
      clear hto hbel
      by_cases h1 : (gr l k).1 ≤ n
      · have f1 : decide (((gr l k).1 : Int) ≤ (n : Int)) = true := by simp; omega
        by_cases h2 : n ≤ (gr l k).2
        · have f2 : decide ((n : Int) ≤ ((gr l k).2 : Int)) = true := by simp; omega
          have HH := veil (has_yes (l := l) (k := k) (by rw [HL.out]; exact hlt) h1 h2)
          clear h1 h2 HTO
          generalize ((gr l k).1 : Int) = y at *
          generalize ((gr l k).2 : Int) = z at *
          go_wp2
          go_ret
          exact ⟨by rw [HH.out]; rfl, HBa.out _⟩
        · have f2 : decide ((n : Int) ≤ ((gr l k).2 : Int)) = false := by simp; omega
          have HS := veil (show ∀ j, j < k + 1 → ¬ ((gr l j).1 ≤ n ∧ n ≤ (gr l j).2) from fun j hj => by
            rcases Nat.lt_or_ge j k with e | e
            · exact HTO.out j e
            · obtain rfl : j = k := by omega
              exact fun h => h2 h.2)
          clear h1 h2 HTO
          generalize ((gr l k).1 : Int) = y at *
          generalize ((gr l k).2 : Int) = z at *
          go_wp2
          go_roundw
          case rel => exact ⟨k + 1, by have := HLt.out; omega, by go_num, HS.out, HBa.out _⟩
          case measure => have := HLt.out; simp [intOf]; omega
      · have f1 : decide (((gr l k).1 : Int) ≤ (n : Int)) = false := by simp; omega
        have HS := veil (show ∀ j, j < k + 1 → ¬ ((gr l j).1 ≤ n ∧ n ≤ (gr l j).2) from fun j hj => by
          rcases Nat.lt_or_ge j k with e | e
          · exact HTO.out j e
          · obtain rfl : j = k := by omega
            exact fun h => h1 h.1)
        clear h1 HTO
        generalize ((gr l k).1 : Int) = y at *
        generalize ((gr l k).2 : Int) = z at *
        go_wp2
        go_roundw
        case rel => exact ⟨k + 1, by have := HLt.out; omega, by go_num, HS.out, HBa.out _⟩
        case measure => have := HLt.out; simp [intOf]; omega
    · obtain rfl : len = k := by omega
      have HH := veil (has_no (l := l) (n := n) (by rw [HL.out]; exact hto))
      have HB := veil hbel
      clear hto hbel
      go_wp2
      go_ret
      exact ⟨by rw [HH.out]; rfl, HB.out⟩
end Go.Proofs.YtalhfciiflcfbaaGreatDoor
