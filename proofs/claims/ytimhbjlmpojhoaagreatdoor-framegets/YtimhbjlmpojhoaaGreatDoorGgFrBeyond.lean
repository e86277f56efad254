/-
  Beyond: whether numbers together are more than MaxBytes.
-/
import Derived.Test.YtimhbjlmpojhoaaGreatDoorGgFrSize
namespace Go.Proofs.YtimhbjlmpojhoaaGreatDoor
open Go Go.RowKit

set_option maxRecDepth 20000 in
set_option maxHeartbeats 1000000 in
theorem beyond_any (g n : Nat) (v : Nat → Nat) (w : World) (hn : n ≤ 1000) (hc : ∀ j, j < n → w.cell? ⟨g, j, none⟩ = some (.int .i64 (v j : Int))) (hv : ∀ j, j < n → v j ≤ 1000000000000000) :
    Calls Tryz.prog 5 #[.slice (some ⟨g, 0, none⟩) n n] w fun e w' => (∃ b, e = .returned (.bool b) ∧ (b = false → ∀ j, j < n → v j ≤ 1048576)) ∧ w' = w := by
  have HC := veil hc
  have HV := veil hv
  clear hc hv
  go_enter Tryz.func5, Tryz.ntmps5
  go_wp2_with fail
  go_loopw [3, 4] (fun s i wr => ∃ (k N : Nat), k ≤ n ∧ i = .int .i64 (k : Int) ∧ s = .int .i64 (N : Int) ∧ N ≤ 1048576 ∧ (∀ j, j < k → v j ≤ N) ∧ wr = w)
    (fun _ i _ => n - (intOf i).toNat)
  case atStart => exact ⟨0, 0, Nat.zero_le _, rfl, rfl, Nat.zero_le _, fun j hj => absurd hj (Nat.not_lt_zero _), rfl⟩
  case round =>
    obtain ⟨k, N, hk, rfl, rfl, hN, hJ, rfl⟩ := hrel
    have HJ := veil hJ
    clear hJ
    by_cases hlt : k < n
    · have hd0 : decide ((k : Int) < (n : Int)) = true := by simp; omega
      have hd0n : decide (k < n) = true := by simp; omega
      have hck := HC.out k hlt
      have hvk := HV.out k hlt
      have hw : IntKind.i64.wrap ((N : Int) + (v k : Int)) = (N : Int) + (v k : Int) := by rw [IntKind.wrap_i64]; omega
      by_cases hb : 1048576 < N + v k
      · have f1 : decide ((1048576 : Int) < (N : Int) + (v k : Int)) = true := decide_eq_true (by omega)
        go_wp2_with fail
        go_ret
        exact ⟨⟨true, rfl, fun e => by cases e⟩, rfl⟩
      · have f1 : decide ((1048576 : Int) < (N : Int) + (v k : Int)) = false := decide_eq_false (by omega)
        have J2 := veil (show ∀ j, j < k + 1 → v j ≤ N + v k by
          intro j hj
          rcases Nat.lt_or_ge j k with q | q
          · have := HJ.out j q; omega
          · obtain rfl : j = k := by omega
            omega)
        go_wp2_with fail
        go_roundw
        case rel => exact ⟨k + 1, N + v k, by omega, by go_num, by go_num, by omega, J2.out, by trivial⟩
        case measure => simp [intOf]; omega
    · have hd0 : decide ((k : Int) < (n : Int)) = false := by simp; omega
      have hd0n : decide (k < n) = false := by simp; omega
      have HR := veil (show ∀ j, j < n → v j ≤ 1048576 from fun j hj => by have := HJ.out j (by omega); omega)
      go_wp2_with fail
      go_ret
      exact ⟨⟨false, rfl, fun _ => HR.out⟩, rfl⟩
theorem beyond_one (w : World) (N : Nat) (hN : N ≤ 1000000000000000) : Calls Tryz.prog 5 #[.slice (some ⟨w.heap.size, 0, none⟩) 1 1] (w.alloc (.cells #[.int .i64 (N : Int)] 3)) fun e w' => (∃ b, e = .returned (.bool b) ∧ (b = false → N ≤ 1048576)) ∧ Below w.heap.size w w' := by
  have r : Row (w.alloc (.cells #[.int .i64 (N : Int)] 3)) w.heap.size 3 #[.int .i64 (N : Int)] := Row.new _ _ _
  refine (beyond_any w.heap.size 1 (fun _ => N) _ (by decide) (fun j hj => ?_) (fun _ _ => hN)).mono ?_
  · obtain rfl : j = 0 := by omega
    exact r.cell 0
  · rintro e w' ⟨⟨b, rfl, h⟩, rfl⟩
    exact ⟨⟨b, rfl, fun hb => h hb 0 (by decide)⟩, (Below.refl _ w).alloc (Nat.le_refl _) _⟩
end Go.Proofs.YtimhbjlmpojhoaaGreatDoor
