/-
  FlowBack: the walk.
-/
import Derived.Test.YtepkajaallcnmaaFlLives
import Derived.Test.YtepkajaallcnmaaFlIds
namespace Go.Proofs.Ytepkajaallcnmaa
open Go Go.RowKit

theorem back_id (x : Nat) (hx : x ≤ 4611686018427387903) : idN (b0 x) (b1 x) (x / 4) = x := by
  unfold idN b0 b1
  rw [if_pos (by omega)]
  simp only [decide_eq_true_eq]
  split <;> split <;> omega

set_option maxRecDepth 20000 in
set_option maxHeartbeats 1000000 in
theorem back_walk (x : Nat) (w : World) (hx : x < 18446744073709551616) :
    Calls Try.prog 5 #[.int .u64 (x : Int)] w fun e w' => e = .returned (.bool true) ∧ Below w.heap.size w w' := by
  have A1 := veil (fun w => stream_any x w hx)
  have A2 := veil (fun w => id_any (b0 x) (b1 x) (x / 4) w (by omega))
  by_cases h : x ≤ 4611686018427387903
  · rw [back_id x h, show idE (x / 4) = 0 from if_pos (by omega)] at A2
    generalize b0 x = c0 at *
    generalize b1 x = c1 at *
    generalize x / 4 = q at *
    go_enter Try.func5, Try.ntmps5
    go_wp2_with fail
    refine (A1.out _).mono ?_
    rintro e1 w1 ⟨rfl, hw⟩
    obtain rfl := hw.symm
    clear A1
    go_wp2_with fail
    refine (A2.out _).mono ?_
    rintro e2 w2 ⟨rfl, hw⟩
    obtain rfl := hw.symm
    clear A2
    go_wp2_with fail
    refine (lives_any _).mono ?_
    rintro e5 w5 ⟨rfl, hb5⟩
    have B5 := veil hb5
    clear hb5
    go_wp2_with fail
    go_ret
    exact ⟨rfl, B5.out⟩
  · rw [show idE (x / 4) = 1 from if_neg (by omega)] at A2
    generalize idN (b0 x) (b1 x) (x / 4) = i at *
    generalize b0 x = c0 at *
    generalize b1 x = c1 at *
    generalize x / 4 = q at *
    go_enter Try.func5, Try.ntmps5
    go_wp2_with fail
    refine (A1.out _).mono ?_
    rintro e1 w1 ⟨rfl, hw⟩
    obtain rfl := hw.symm
    clear A1
    go_wp2_with fail
    refine (A2.out _).mono ?_
    rintro e2 w2 ⟨rfl, hw⟩
    obtain rfl := hw.symm
    clear A2
    go_wp2_with fail
    refine (lives_any _).mono ?_
    rintro e5 w5 ⟨rfl, hb5⟩
    have B5 := veil hb5
    clear hb5
    go_wp2_with fail
    go_ret
    exact ⟨rfl, B5.out⟩
end Go.Proofs.Ytepkajaallcnmaa
