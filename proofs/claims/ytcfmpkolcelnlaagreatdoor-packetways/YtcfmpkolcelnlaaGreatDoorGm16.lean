/-
  Out of ShaRot, ShaTurn.
-/
import Derived.Test.YtcfmpkolcelnlaaGreatDoorRows
import Derived.Test.YtcfmpkolcelnlaaGreatDoorGm1
import Derived.WalkKit
import Derived.WalkSpells
import Derived.WalkLawsBesides
import Derived.Deep.QuietTactic
import Derived.BigQuiet

/-!  -/
namespace Go.Proofs.YtcfmpkolcelnlaaGreatDoor
open Go.RowKit

set_option maxHeartbeats 400000 in
theorem rot_any (x : Wd) (n : Int) (w : World) (h0 : 1 ≤ n) (h1 : n ≤ 31) :
    Calls Tryz.prog 206 #[.int .u32 (u x), .int .i64 (-n)] w fun e w' => e = .returned (.int .u32 (u (rr x n.toNat))) ∧ w' = w := by
  have hx0 := u_nn x
  have hx1 := u_le x
  have ha := and31 n h0 h1
  have hs1 := wsl x (32 - n.toNat)
  have hs2 := wsr x n.toNat
  have hb := bo (sl x (32 - n.toNat)) (sr x n.toNat)
  rw [rr_comm] at hb
  have e1 : (32 - n).toNat = 32 - n.toNat := by omega
  have e2 : (32 : Int) - (32 - n) = n := by omega
  go_enter Tryz.func206, Tryz.ntmps206
  go_wp2
  go_ret
  exact ⟨rfl, rfl⟩

set_option maxHeartbeats 400000 in
theorem right_any (x : Wd) (n : Int) (w : World) (h0 : 1 ≤ n) (h1 : n ≤ 31) :
    Calls Tryz.prog 233 #[.int .u32 (u x), .int .i64 n] w fun e w' => e = .returned (.int .u32 (u (rr x n.toNat))) ∧ w' = w := by
  go_enter Tryz.func233, Tryz.ntmps233
  go_wp2_with fail
  refine (rot_any x n _ h0 h1).mono ?_
  rintro e w' ⟨rfl, rfl⟩
  go_wp2
  go_ret
  exact ⟨rfl, rfl⟩

end Go.Proofs.YtcfmpkolcelnlaaGreatDoor

/-! What sha.turn answers. -/
namespace Go.Proofs.YtcfmpkolcelnlaaGreatDoor
open Go.RowKit
set_option maxRecDepth 20000 in
set_option maxHeartbeats 400000 in
theorem turn_eight (a b c d e f g h kw : Wd) (w : World) :
    Calls Tryz.prog 230 #[.agg #[.int .u32 (u a), .int .u32 (u b), .int .u32 (u c), .int .u32 (u d), .int .u32 (u e), .int .u32 (u f), .int .u32 (u g), .int .u32 (u h)], .int .u32 (u kw)] w fun r w' => r = .returned (.agg (ws (turnL [a, b, c, d, e, f, g, h] kw))) ∧ Below w.heap.size w w' := by
  have hx := bx
  have ha := ba
  have ho := bo
  have hn := bnot
  have hp := wadd
  have hch := ch_or
  have hmj := maj_or
  go_enter Tryz.func230, Tryz.ntmps230
  go_wp2
  go_quiet (fail)
  go_wp2_with fail
  refine (right_any e 6 _ (by omega) (by omega)).mono ?_
  rintro e1 w1 ⟨rfl, hw⟩
  rw [hw]; clear hw
  go_wp2_with fail
  refine (right_any e 11 _ (by omega) (by omega)).mono ?_
  rintro e1 w1 ⟨rfl, hw⟩
  rw [hw]; clear hw
  go_wp2_with fail
  refine (right_any e 25 _ (by omega) (by omega)).mono ?_
  rintro e1 w1 ⟨rfl, hw⟩
  rw [hw]; clear hw
  go_wp2_with fail
  refine (right_any a 2 _ (by omega) (by omega)).mono ?_
  rintro e1 w1 ⟨rfl, hw⟩
  rw [hw]; clear hw
  go_wp2_with fail
  refine (right_any a 13 _ (by omega) (by omega)).mono ?_
  rintro e1 w1 ⟨rfl, hw⟩
  rw [hw]; clear hw
  go_wp2_with fail
  refine (right_any a 22 _ (by omega) (by omega)).mono ?_
  rintro e1 w1 ⟨rfl, hw⟩
  rw [hw]; clear hw
  go_wp2
  refine bodyPost_ret (v := .agg (ws (turnL [a, b, c, d, e, f, g, h] kw))) ?_ rfl ⟨rfl, ?_⟩
  · simp [results, Tryz.results230, go_sem, ws, turnL, gw, T1, T2, S1, S0]
  · exact ((((((((below_drewN (((Below.refl _ w).alloc (Nat.le_refl _) _).alloc (by simp) _) _).setCell (p := ⟨w.heap.size + 1, 0, none⟩) (Nat.le_succ _) _).setCell (p := ⟨w.heap.size + 1, 1, none⟩) (Nat.le_succ _) _).setCell (p := ⟨w.heap.size + 1, 2, none⟩) (Nat.le_succ _) _).setCell (p := ⟨w.heap.size + 1, 3, none⟩) (Nat.le_succ _) _).setCell (p := ⟨w.heap.size + 1, 4, none⟩) (Nat.le_succ _) _).setCell (p := ⟨w.heap.size + 1, 5, none⟩) (Nat.le_succ _) _).setCell (p := ⟨w.heap.size + 1, 6, none⟩) (Nat.le_succ _) _).setCell (p := ⟨w.heap.size + 1, 7, none⟩) (Nat.le_succ _) _

/-- sha.turn, its answer written out. -/
theorem turn_exp (a b c d e f g h kw : Wd) (w : World) :
    Calls Tryz.prog 230 #[.agg #[.int .u32 (u a), .int .u32 (u b), .int .u32 (u c), .int .u32 (u d), .int .u32 (u e), .int .u32 (u f), .int .u32 (u g), .int .u32 (u h)], .int .u32 (u kw)] w fun r w' =>
      r = .returned (.agg #[.int .u32 (u (ad (T1 e f g h kw) (T2 a b c))), .int .u32 (u a), .int .u32 (u b), .int .u32 (u c), .int .u32 (u (ad d (T1 e f g h kw))), .int .u32 (u e), .int .u32 (u f), .int .u32 (u g)]) ∧ Below w.heap.size w w' :=
  turn_eight a b c d e f g h kw w

end Go.Proofs.YtcfmpkolcelnlaaGreatDoor
