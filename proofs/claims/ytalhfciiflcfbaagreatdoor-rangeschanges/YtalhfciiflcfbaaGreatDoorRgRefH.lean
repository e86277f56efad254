/-
  What the document's Has, in, put and borders answer.
-/
import Derived.Test.YtalhfciiflcfbaaGreatDoorRgRefC
import Derived.Test.YtalhfciiflcfbaaGreatDoorRgRefP
namespace Go.Proofs.YtalhfciiflcfbaaGreatDoor
open Go Go.RowKit Go.Shelf

set_option maxRecDepth 20000 in
set_option maxHeartbeats 1000000 in
theorem ref_has8 (s : RL) (n : Nat) (w : World) (hs : s.Ok w) (hl : s.len ≤ 1048576) :
    Calls Tryz.prog 22 #[.slice s.a s.len s.cap, .int .u64 (n : Int)] w fun e w' => e = .returned (.bool (Rg.hasL s.l n)) ∧ Below w.heap.size w w' := by
  obtain ⟨a, len, cap, g, off, l⟩ := s
  have hll : l.length = len := hs.hb
  simp only at hl
  have HP := veil hs
  have HL := veil hll
  clear hs hll
  go_enter Tryz.func22, Tryz.ntmps22
  go_wp2_with fail
  go_loopw [5] (fun i wr => ∃ k : Nat, k ≤ len ∧ i = .int .i64 k ∧ (∀ j, j < k → ¬ ((gr l j).1 ≤ n ∧ n ≤ (gr l j).2)) ∧ Below w.heap.size w wr)
    (fun i _ => len - (intOf i).toNat)
  case atStart => exact ⟨0, Nat.zero_le _, rfl, fun j hj => absurd hj (Nat.not_lt_zero _), Below.refl _ _⟩
  case round =>
    obtain ⟨k, hk, rfl, hto, hbel⟩ := hrel
    by_cases hlt : k < len
    · have e1 : a = some ⟨g, off, none⟩ := HP.out.at_ (show 0 < len by omega)
      subst e1
      obtain ⟨c1, c2⟩ := (HP.out.below hbel).cell k hlt
      simp only at c1 c2
      have HTO := veil hto
      have HLt := veil hlt
      have HBa := veil hbel
      clear hto hbel
      by_cases h1 : (gr l k).1 ≤ n
      · have f1 : decide (((gr l k).1 : Int) ≤ (n : Int)) = true := by simp; omega
        by_cases h2 : n ≤ (gr l k).2
        · have f2 : decide ((n : Int) ≤ ((gr l k).2 : Int)) = true := by simp; omega
          have HH := veil (has_yes (l := l) (k := k) (by rw [HL.out]; exact hlt) h1 h2)
          clear h1 h2 HTO
          generalize ((gr l k).1 : Int) = y at *
          generalize ((gr l k).2 : Int) = z at *
          go_wp2
          go_ret
          exact ⟨by rw [HH.out]; rfl, HBa.out⟩
        · have f2 : decide ((n : Int) ≤ ((gr l k).2 : Int)) = false := by simp; omega
          have HS := veil (show ∀ j, j < k + 1 → ¬ ((gr l j).1 ≤ n ∧ n ≤ (gr l j).2) from fun j hj => by
            rcases Nat.lt_or_ge j k with e | e
            · exact HTO.out j e
            · obtain rfl : j = k := by omega
              exact fun h => h2 h.2)
          clear h1 h2 HTO
          generalize ((gr l k).1 : Int) = y at *
          generalize ((gr l k).2 : Int) = z at *
          go_wp2
          go_roundw
          case rel => exact ⟨k + 1, by have := HLt.out; omega, by go_num, HS.out, HBa.out⟩
          case measure => have := HLt.out; simp [intOf]; omega
      · have f1 : decide (((gr l k).1 : Int) ≤ (n : Int)) = false := by simp; omega
        have HS := veil (show ∀ j, j < k + 1 → ¬ ((gr l j).1 ≤ n ∧ n ≤ (gr l j).2) from fun j hj => by
          rcases Nat.lt_or_ge j k with e | e
          · exact HTO.out j e
          · obtain rfl : j = k := by omega
            exact fun h => h1 h.1)
        clear h1 HTO
        generalize ((gr l k).1 : Int) = y at *
        generalize ((gr l k).2 : Int) = z at *
        go_wp2
        go_roundw
        case rel => exact ⟨k + 1, by have := HLt.out; omega, by go_num, HS.out, HBa.out⟩
        case measure => have := HLt.out; simp [intOf]; omega
    · obtain rfl : len = k := by omega
      have HH := veil (has_no (l := l) (n := n) (by rw [HL.out]; exact hto))
      have HB := veil hbel
      clear hto hbel
      go_wp2
      go_ret
      exact ⟨by rw [HH.out]; rfl, HB.out⟩

/-- The rule of a kind. -/
def ruleK : Nat → Bool → Bool → Bool
  | 0 => Rg.orB
  | 1 => Rg.butB
  | _ => Rg.andB
set_option maxRecDepth 20000 in
set_option maxHeartbeats 1000000 in
theorem ref_in8 (kd : Nat) (hkd : kd ≤ 2) (s t : RL) (n : Nat) (w : World) (hs : s.Ok w) (ht : t.Ok w) (hl : s.len ≤ 1048576) (hl2 : t.len ≤ 1048576) :
    Calls Tryz.prog 69 #[.int .i64 (kd : Int), .slice s.a s.len s.cap, .slice t.a t.len t.cap, .int .u64 (n : Int)] w fun e w' => e = .returned (.bool (ruleK kd (Rg.hasL s.l n) (Rg.hasL t.l n))) ∧ Below w.heap.size w w' := by
  have HT := veil ht
  have H1 := veil (ref_has8 s n w hs hl)
  have H2 := veil (fun w1 hb => ref_has8 t n w1 (HT.out.below hb) hl2)
  clear ht hs hl hl2
  generalize Rg.hasL s.l n = x at *
  generalize Rg.hasL t.l n = y at *
  have hk : kd = 0 ∨ kd = 1 ∨ kd = 2 := by omega
  clear hkd
  rcases hk with rfl | rfl | rfl <;> cases x <;> cases y <;>
    (go_enter Tryz.func69, Tryz.ntmps69
     go_wp2_with fail
     refine H1.out.mono ?_
     rintro e1 w1 ⟨rfl, hb1⟩
     have H3 := veil (H2.out w1 hb1)
     have HB1 := veil hb1
     clear hb1
     go_wp2_with fail
     refine H3.out.mono ?_
     rintro e2 w2 ⟨rfl, hb2⟩
     have HB2 := veil (HB1.out.trans (hb2.mono HB1.out.size))
     clear hb2 H1 H2 H3
     go_wp2
     go_ret
     exact ⟨rfl, HB2.out⟩)
end Go.Proofs.YtalhfciiflcfbaaGreatDoor
