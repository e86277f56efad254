/-
  What ranges.Check answers.
-/
import Derived.Test.YtalhfciiflcfbaaGreatDoorRgSet
import Derived.Test.YtalhfciiflcfbaaGreatDoorRgPlain
namespace Go.Proofs.YtalhfciiflcfbaaGreatDoor
open Go Go.RowKit

theorem setOk_no {l : List (Nat × Nat)} {k : Nat} (hk : k < l.length) (hn : ¬ ((gr l k).1 ≤ (gr l k).2 ∧ (gr l k).2 ≤ 4611686018427387903 ∧ (0 < k → (gr l (k - 1)).2 + 1 < (gr l k).1))) : ¬ Rg.setOk l := fun h => hn (setL_to l h.2 (k + 1) (by omega) k (by omega))
set_option maxRecDepth 20000 in
set_option maxHeartbeats 4000000 in
theorem rg_check (s : RL) (w : World) (hs : s.Ok w) :
    Calls Tryz.prog 13 #[.slice s.a s.len s.cap] w fun e w' => (e = .returned (.bool true) ∧ Rg.setOk s.l ∨ e = .returned (.bool false) ∧ ¬ Rg.setOk s.l) ∧ Below w.heap.size w w' := by
  obtain ⟨a, len, cap, g, off, l⟩ := s
  have hll : l.length = len := hs.hb
  by_cases h64 : 64 < len
  · have e64 : decide ((len : Int) > 64) = true := by simp; omega
    have e64' : decide ((64 : Int) < (len : Int)) = true := by simp; omega
    have e64n : decide (64 < len) = true := by simp; omega
    have HH := veil (show ¬ Rg.setOk l from fun h => by have := h.1; omega)
    clear hs hll h64
    go_enter Tryz.func13, Tryz.ntmps13
    go_wp2_with fail
    go_ret
    exact ⟨.inr ⟨rfl, HH.out⟩, Below.refl _ _⟩
  have e64 : decide ((64 : Int) < (len : Int)) = false := by simp; omega
  have e64n : decide (64 < len) = false := by simp; omega
  have HP := veil hs
  have HL := veil hll
  have H64 := veil h64
  have hl64 : len ≤ 64 := by omega
  clear hs hll h64
  go_enter Tryz.func13, Tryz.ntmps13
  go_wp2_with fail
  go_loopw [10] (fun i wr => ∃ k : Nat, k ≤ len ∧ i = .int .i64 k ∧ setTo l k ∧ Below w.heap.size w wr)
    (fun i _ => len - (intOf i).toNat)
  case atStart => exact ⟨0, Nat.zero_le _, rfl, fun j hj => absurd hj (Nat.not_lt_zero _), Below.refl _ _⟩
  case round =>
    obtain ⟨k, hk, rfl, hto, hbel⟩ := hrel
    by_cases hlt : k < len
    · have e1 : a = some ⟨g, off, none⟩ := HP.out.at_ (show 0 < len by omega)
      subst e1
      obtain ⟨c1, c2⟩ := (HP.out.below hbel).cell k hlt
      have sm := HP.out.small k
      simp only at c1 c2 sm
      have HTO := veil hto
      have HLt := veil hlt
      have HB := veil hbel
      have HBa := veil (fun o => hbel.alloc hbel.size o)
      have HLT := veil ((HP.out.below hbel).lt (show 0 < len by omega))
      clear hto hbel
      have HBb := veil (fun o o' => (HBa.out o).alloc ((HBa.out o).size) o')
      have HNO := veil (setOk_no (l := l) (k := k) (by have := HL.out; omega))
      by_cases h1 : (gr l k).1 ≤ (gr l k).2
      · have f1 : decide (((gr l k).1 : Int) ≤ ((gr l k).2 : Int)) = true := by simp; omega
        by_cases h2 : (gr l k).2 ≤ 4611686018427387903
        · have f2 : decide (((gr l k).2 : Int) ≤ 4611686018427387903) = true := by simp; omega
          by_cases hk0 : k = 0
          · have f3 : decide ((0 : Int) < (k : Int)) = false := by simp; omega
            have f3n : decide (0 < k) = false := by simp; omega
            have HS := veil (setTo_succ HTO.out h1 h2 (fun h => by omega))
            clear h1 h2 hk0 HNO sm HTO
            generalize ((gr l k).1 : Int) = y at *
            generalize ((gr l k).2 : Int) = z at *
            go_wp2
            go_quiet (fail)
            go_wp2
            go_roundw
            case rel => exact ⟨k + 1, by have := HLt.out; omega, by go_num, HS.out, below_drewN (HBb.out _ _) _⟩
            case measure => have := HLt.out; simp [intOf]; omega
          · have f3 : decide ((0 : Int) < (k : Int)) = true := by simp; omega
            have f3n : decide (0 < k) = true := by simp; omega
            have hk1 : (k : Int) - 1 = ((k - 1 : Nat) : Int) := by omega
            have hk2 : k - 1 < len := by omega
            have hkw : IntKind.i64.wrap ((k - 1 : Nat) : Int) = ((k - 1 : Nat) : Int) := by have := H64.out; rw [IntKind.wrap_i64]; omega
            have hc4 : ∀ o o', (((wr.alloc o).alloc o').cell? ⟨g, off + (k - 1) * 2 + 1, none⟩) = some (.int .u64 ((gr l (k - 1)).2 : Int)) := fun o o' => ((HP.out.below (HBb.out o o')).cell (k - 1) hk2).2
            have HC4 := veil hc4
            have hp := (HTO.out (k - 1) (by omega)).2.1
            have hw : IntKind.u64.wrap (((gr l (k - 1)).2 : Int) + 2) = (((gr l (k - 1)).2 + 2 : Nat) : Int) := by rw [IntKind.wrap_u64]; omega
            clear hc4
            by_cases h3 : (gr l (k - 1)).2 + 1 < (gr l k).1
            · have f4 : decide (((gr l k).1 : Int) < (((gr l (k - 1)).2 + 2 : Nat) : Int)) = false := by simp; omega
              have HS := veil (setTo_succ HTO.out h1 h2 (fun _ => h3))
              clear h1 h2 h3 hk0 HNO sm HTO hp
              generalize (((gr l (k - 1)).2 + 2 : Nat) : Int) = p at *
              generalize ((gr l (k - 1)).2 : Int) = q at *
              generalize ((gr l k).1 : Int) = y at *
              generalize ((gr l k).2 : Int) = z at *
              have c4 := HC4.out (.cells #[.int .u64 y, .int .u64 z] 25) (.cells #[.int .u64 y, .int .u64 z] 25)
              go_wp2
              go_quiet (fail)
              go_wp2
              go_roundw
              case rel => exact ⟨k + 1, by have := HLt.out; omega, by go_num, HS.out, below_drewN (HBb.out _ _) _⟩
              case measure => have := HLt.out; simp [intOf]; omega
            · have f4 : decide (((gr l k).1 : Int) < (((gr l (k - 1)).2 + 2 : Nat) : Int)) = true := by simp; omega
              have HH := veil (HNO.out fun h => h3 (h.2.2 (by omega)))
              clear h1 h2 h3 hk0 HNO sm HTO hp
              generalize (((gr l (k - 1)).2 + 2 : Nat) : Int) = p at *
              generalize ((gr l (k - 1)).2 : Int) = q at *
              generalize ((gr l k).1 : Int) = y at *
              generalize ((gr l k).2 : Int) = z at *
              have c4 := HC4.out (.cells #[.int .u64 y, .int .u64 z] 25) (.cells #[.int .u64 y, .int .u64 z] 25)
              go_wp2
              go_quiet (fail)
              go_wp2
              go_ret
              exact ⟨.inr ⟨rfl, HH.out⟩, below_drewN (HBb.out _ _) _⟩
        · have f2 : decide (((gr l k).2 : Int) ≤ 4611686018427387903) = false := by simp; omega
          have HH := veil (HNO.out fun h => h2 h.2.1)
          clear h1 h2 HNO sm HTO
          generalize ((gr l k).1 : Int) = y at *
          generalize ((gr l k).2 : Int) = z at *
          go_wp2
          go_ret
          exact ⟨.inr ⟨rfl, HH.out⟩, HBb.out _ _⟩
      · have f1' : decide (((gr l k).1 : Int) ≤ ((gr l k).2 : Int)) = false := by simp; omega
        have HH := veil (HNO.out fun h => h1 h.1)
        clear h1 HNO sm
        generalize ((gr l k).1 : Int) = y at *
        generalize ((gr l k).2 : Int) = z at *
        go_wp2
        go_ret
        exact ⟨.inr ⟨rfl, HH.out⟩, HBb.out _ _⟩
    · obtain rfl : len = k := by omega
      have HH := veil (show Rg.setOk l from ⟨by have := HL.out; have := H64.out; omega, setTo_L l (by rw [HL.out]; exact hto)⟩)
      have HB := veil hbel
      clear hto hbel
      go_wp2
      go_ret
      exact ⟨.inl ⟨rfl, HH.out⟩, HB.out⟩
end Go.Proofs.YtalhfciiflcfbaaGreatDoor
