/-
  What ranges.turn answers.
-/
import Derived.Test.YtalhfciiflcfbaaGreatDoorRgCheck
namespace Go.Proofs.YtalhfciiflcfbaaGreatDoor
open Go Go.RowKit

theorem turns_even : ∀ (l : List (Nat × Nat)) (k : Nat), k < l.length → (Rg.turnsOf l)[2 * k]? = some (gr l k).1 ∧ (Rg.turnsOf l)[2 * k + 1]? = some ((gr l k).2 + 1)
  | [], k, h => by simp at h
  | (x, y) :: r, 0, _ => ⟨rfl, rfl⟩
  | (x, y) :: r, k + 1, h => by
    have := turns_even r k (by simpa using h)
    rw [Rg.turnsOf, show 2 * (k + 1) = 2 * k + 1 + 1 by omega, show 2 * k + 1 + 1 + 1 = 2 * k + 1 + 1 + 1 from rfl, List.getElem?_cons_succ, List.getElem?_cons_succ, List.getElem?_cons_succ, List.getElem?_cons_succ]
    have g : gr ((x, y) :: r) (k + 1) = gr r k := by simp [gr]
    rw [g]
    exact this
theorem nxt_even {l : List (Nat × Nat)} {k : Nat} (h : k < l.length) : Rg.nxt (Rg.turnsOf l) (2 * k) = (gr l k).1 := by unfold Rg.nxt; rw [(turns_even l k h).1]; rfl
theorem nxt_odd {l : List (Nat × Nat)} {k : Nat} (h : k < l.length) : Rg.nxt (Rg.turnsOf l) (2 * k + 1) = (gr l k).2 + 1 := by unfold Rg.nxt; rw [(turns_even l k h).2]; rfl
theorem nxt_far {l : List (Nat × Nat)} : Rg.nxt (Rg.turnsOf l) (2 * l.length) = 18446744073709551615 := by unfold Rg.nxt; rw [List.getElem?_eq_none (by rw [Rg.turns_length]; exact Nat.le_refl _)]; rfl

set_option maxRecDepth 20000 in
set_option maxHeartbeats 4000000 in
theorem rg_turn (s : RL) (i : Nat) (w : World) (hs : s.Ok w) (hset : Rg.setOk s.l) (hi : i ≤ 2 * s.len) :
    Calls Tryz.prog 95 #[.slice s.a s.len s.cap, .int .i64 (i : Int)] w fun e w' => e = .returned (.int .u64 (Rg.nxt (Rg.turnsOf s.l) i : Int)) ∧ w' = w := by
  obtain ⟨a, len, cap, g, off, l⟩ := s
  have hll : l.length = len := hs.hb
  have h64 : len ≤ 64 := by rw [← hll]; exact hset.1
  simp only at hi
  by_cases hfar : i = 2 * len
  · have f1 : decide (2 * (len : Int) ≤ (i : Int)) = true := by simp; omega
    have HN := veil (show Rg.nxt (Rg.turnsOf l) i = 18446744073709551615 by rw [hfar, ← hll]; exact nxt_far)
    clear hs hset hfar hi
    go_enter Tryz.func95, Tryz.ntmps95
    go_wp2_with fail
    go_ret
    exact ⟨by rw [HN.out]; rfl, rfl⟩
  have f1 : decide (2 * (len : Int) ≤ (i : Int)) = false := by simp; omega
  obtain ⟨k, hk⟩ : ∃ k, k = i / 2 := ⟨_, rfl⟩
  have hkl : k < len := by omega
  have hq : (i : Int) / 2 = (k : Int) := by omega
  have e1 : a = some ⟨g, off, none⟩ := hs.at_ (show 0 < len by omega)
  subst e1
  obtain ⟨c1, c2⟩ := hs.cell k hkl
  have hsm := (set_at l hset.2 k (by omega)).2.1
  simp only at c1 c2
  by_cases hm : i % 2 = 0
  · have hm2 : ((i : Int) % 2 == 0) = true := by simp; omega
    have HN := veil (show Rg.nxt (Rg.turnsOf l) i = (gr l k).1 by rw [show i = 2 * k by omega]; exact nxt_even (by omega))
    clear hs hset hfar hi hk hll hm hsm
    generalize hy : ((gr l k).1 : Int) = y at c1
    go_enter Tryz.func95, Tryz.ntmps95
    go_wp2_with fail
    go_ret
    exact ⟨by rw [HN.out, hy]; rfl, rfl⟩
  · have hm2 : ((i : Int) % 2 == 0) = false := by simp; omega
    have HN := veil (show Rg.nxt (Rg.turnsOf l) i = (gr l k).2 + 1 by rw [show i = 2 * k + 1 by omega]; exact nxt_odd (by omega))
    have hw : IntKind.u64.wrap (((gr l k).2 : Int) + 1) = (((gr l k).2 + 1 : Nat) : Int) := by rw [IntKind.wrap_u64]; omega
    clear hs hset hfar hi hk hll hm hsm c1
    generalize hp : (((gr l k).2 + 1 : Nat) : Int) = p at hw
    generalize ((gr l k).2 : Int) = y at *
    go_enter Tryz.func95, Tryz.ntmps95
    go_wp2_with fail
    go_ret
    exact ⟨by rw [HN.out, hp]; rfl, rfl⟩
end Go.Proofs.YtalhfciiflcfbaaGreatDoor
