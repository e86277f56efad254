/-
  The law's own word for ranges that are a set.
-/
import Derived.Test.YtjhgelhdhdcmfaaDoorGf5
namespace Go.Proofs.YtjhgelhdhdcmfaaDoor
open Go Go.RowKit

set_option maxRecDepth 20000 in
set_option maxHeartbeats 4000000 in
theorem law_set (s : RL) (w : World) (hs : s.Ok w) (hl100 : s.len ≤ 100) :
    Calls Tryd.prog 14 #[.slice s.a s.len s.cap] w fun e w' => (e = .returned (.bool true) ∧ (s.l.length ≤ 64 ∧ Fr.setL s.l) ∨ e = .returned (.bool false) ∧ ¬ (s.l.length ≤ 64 ∧ Fr.setL s.l)) ∧ Below w.heap.size w w' := by
  obtain ⟨a, len, cap, g, off, l⟩ := s
  have hll : l.length = len := hs.hb
  simp only at hl100
  have HP := veil hs
  have HL := veil hll
  have H64 := veil hl100
  clear hs hll
  go_enter Tryd.func14, Tryd.ntmps14
  go_wp2_with fail
  go_loopw [3] (fun i wr => ∃ k : Nat, k ≤ len ∧ i = .int .i64 k ∧ setTo l k ∧ Below w.heap.size w wr)
    (fun i _ => len - (intOf i).toNat)
  case atStart => exact ⟨0, Nat.zero_le _, rfl, fun j hj => absurd hj (Nat.not_lt_zero _), Below.refl _ _⟩
  case round =>
    obtain ⟨k, hk, rfl, hto, hbel⟩ := hrel
    by_cases hlt : k < len
    · have e1 : a = some ⟨g, off, none⟩ := HP.out.at_ (show 0 < len by omega)
      subst e1
      obtain ⟨c1, c2⟩ := (HP.out.below hbel).cell k hlt
      have sm := HP.out.small k
      simp only at c1 c2 sm
      have HTO := veil hto
      have HB := veil hbel
      clear hto hbel
      have hno : ¬ ((gr l k).1 ≤ (gr l k).2 ∧ (gr l k).2 ≤ 4611686018427387903 ∧ (0 < k → (gr l (k - 1)).2 + 1 < (gr l k).1)) → ¬ (l.length ≤ 64 ∧ Fr.setL l) := fun hn hq => hn (setL_to l hq.2 (k + 1) (by have := HL.out; omega) k (by omega))
      have HNO := veil hno
      clear hno
      by_cases h1 : (gr l k).1 ≤ (gr l k).2
      · have f1 : decide (((gr l k).2 : Int) < ((gr l k).1 : Int)) = false := by simp; omega
        by_cases h2 : (gr l k).2 ≤ 4611686018427387903
        · have f2 : decide ((4611686018427387904 : Int) ≤ ((gr l k).2 : Int)) = false := by simp; omega
          by_cases hk0 : k = 0
          · have f3 : decide ((0 : Int) < (k : Int)) = false := by simp; omega
            have f3n : decide (0 < k) = false := by simp; omega
            have HS := veil (setTo_succ HTO.out h1 h2 (fun h => by omega))
            clear h1 h2 hk0 HNO sm HTO
            generalize ((gr l k).1 : Int) = y at *
            generalize ((gr l k).2 : Int) = z at *
            go_wp2
            go_quiet (fail)
            go_wp2
            go_roundw
            case rel => exact ⟨k + 1, by omega, by go_num, HS.out, below_drewN HB.out _⟩
            case measure => simp [intOf]; omega
          · have f3 : decide ((0 : Int) < (k : Int)) = true := by simp; omega
            have f3n : decide (0 < k) = true := by simp; omega
            have hk1 : (k : Int) - 1 = ((k - 1 : Nat) : Int) := by omega
            have hk2 : k - 1 < len := by omega
            obtain ⟨c3, c4⟩ := (HP.out.below HB.out).cell (k - 1) hk2
            simp only at c3 c4
            have hp := (HTO.out (k - 1) (by omega)).2.1
            have hw : IntKind.u64.wrap (((gr l (k - 1)).2 : Int) + 1) = (((gr l (k - 1)).2 + 1 : Nat) : Int) := by rw [IntKind.wrap_u64]; omega
            by_cases h3 : (gr l (k - 1)).2 + 1 < (gr l k).1
            · have f4 : decide (((gr l k).1 : Int) ≤ (((gr l (k - 1)).2 + 1 : Nat) : Int)) = false := by simp; omega
              have HS := veil (setTo_succ HTO.out h1 h2 (fun _ => h3))
              clear h1 h2 h3 hk0 HNO sm HTO hp c3
              generalize (((gr l (k - 1)).2 + 1 : Nat) : Int) = p at *
              generalize ((gr l (k - 1)).2 : Int) = q at *
              generalize ((gr l k).1 : Int) = y at *
              generalize ((gr l k).2 : Int) = z at *
              go_wp2
              go_quiet (fail)
              go_wp2
              go_roundw
              case rel => exact ⟨k + 1, by omega, by go_num, HS.out, below_drewN HB.out _⟩
              case measure => simp [intOf]; omega
            · have f4 : decide (((gr l k).1 : Int) ≤ (((gr l (k - 1)).2 + 1 : Nat) : Int)) = true := by simp; omega
              have HH := veil (HNO.out fun h => h3 (h.2.2 (by omega)))
              clear h1 h2 h3 hk0 HNO sm HTO hp c3
              generalize (((gr l (k - 1)).2 + 1 : Nat) : Int) = p at *
              generalize ((gr l (k - 1)).2 : Int) = q at *
              generalize ((gr l k).1 : Int) = y at *
              generalize ((gr l k).2 : Int) = z at *
              go_wp2
              go_quiet (fail)
              go_wp2
              go_ret
              exact ⟨.inr ⟨rfl, HH.out⟩, below_drewN HB.out _⟩
        · have f2 : decide ((4611686018427387904 : Int) ≤ ((gr l k).2 : Int)) = true := by simp; omega
          have HH := veil (HNO.out fun h => h2 h.2.1)
          clear h1 h2 HNO sm HTO
          generalize ((gr l k).1 : Int) = y at *
          generalize ((gr l k).2 : Int) = z at *
          go_wp2
          go_quiet (fail)
          go_wp2
          go_ret
          exact ⟨.inr ⟨rfl, HH.out⟩, below_drewN HB.out _⟩
      · have f1 : decide (((gr l k).1 : Int) > ((gr l k).2 : Int)) = true := by simp; omega
        have f1' : decide (((gr l k).2 : Int) < ((gr l k).1 : Int)) = true := by simp; omega
        have HH := veil (HNO.out fun h => h1 h.1)
        clear h1 HNO sm
        generalize ((gr l k).1 : Int) = y at *
        generalize ((gr l k).2 : Int) = z at *
        go_wp2
        go_quiet (fail)
        go_wp2
        go_ret
        exact ⟨.inr ⟨rfl, HH.out⟩, below_drewN HB.out _⟩
    · obtain rfl : len = k := by omega
      have HB := veil hbel
      have HT := veil (show Fr.setL l from setTo_L l (by rw [HL.out]; exact hto))
      clear hto hbel
      by_cases h64 : len ≤ 64
      · have f5 : decide ((len : Int) ≤ 64) = true := by simp; omega
        have f5n : decide (len ≤ 64) = true := by simp; omega
        have HH := veil (show l.length ≤ 64 ∧ Fr.setL l from ⟨by have := HL.out; omega, HT.out⟩)
        go_wp2
        go_ret
        exact ⟨.inl ⟨rfl, HH.out⟩, HB.out⟩
      · have f5 : decide ((len : Int) ≤ 64) = false := by simp; omega
        have f5n : decide (len ≤ 64) = false := by simp; omega
        have HH := veil (show ¬ (l.length ≤ 64 ∧ Fr.setL l) from fun h => by have := HL.out; omega)
        go_wp2
        go_ret
        exact ⟨.inr ⟨rfl, HH.out⟩, HB.out⟩
end Go.Proofs.YtjhgelhdhdcmfaaDoor
