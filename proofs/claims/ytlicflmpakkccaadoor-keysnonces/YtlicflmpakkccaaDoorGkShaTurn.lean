/-
  What sha.turn answers.
-/
import Derived.Test.YtlicflmpakkccaaDoorGkShaRot
import Derived.Test.YtlicflmpakkccaaDoorGk1
import Derived.Deep.QuietTactic
import Derived.BigQuiet
namespace Go.Proofs.YtlicflmpakkccaaDoor
open Go.RowKit
set_option maxRecDepth 20000 in
set_option maxHeartbeats 400000 in
theorem turn_eight (a b c d e f g h kw : Wd) (w : World) :
    Calls Tryd.prog 50 #[.agg #[.int .u32 (u a), .int .u32 (u b), .int .u32 (u c), .int .u32 (u d), .int .u32 (u e), .int .u32 (u f), .int .u32 (u g), .int .u32 (u h)], .int .u32 (u kw)] w fun r w' => r = .returned (.agg (ws (turnL [a, b, c, d, e, f, g, h] kw))) ∧ Below w.heap.size w w' := by
  have hx := bx
  have ha := ba
  have ho := bo
  have hn := bnot
  have hp := wadd
  have hch := ch_or
  have hmj := maj_or
  go_enter Tryd.func50, Tryd.ntmps50
  go_wp2
  go_quiet (fail)
  go_wp2_with fail
  refine (right_any e 6 _ (by omega) (by omega)).mono ?_
  rintro e1 w1 ⟨rfl, hw⟩
  rw [hw]; clear hw
  go_wp2_with fail
  refine (right_any e 11 _ (by omega) (by omega)).mono ?_
  rintro e1 w1 ⟨rfl, hw⟩
  rw [hw]; clear hw
  go_wp2_with fail
  refine (right_any e 25 _ (by omega) (by omega)).mono ?_
  rintro e1 w1 ⟨rfl, hw⟩
  rw [hw]; clear hw
  go_wp2_with fail
  refine (right_any a 2 _ (by omega) (by omega)).mono ?_
  rintro e1 w1 ⟨rfl, hw⟩
  rw [hw]; clear hw
  go_wp2_with fail
  refine (right_any a 13 _ (by omega) (by omega)).mono ?_
  rintro e1 w1 ⟨rfl, hw⟩
  rw [hw]; clear hw
  go_wp2_with fail
  refine (right_any a 22 _ (by omega) (by omega)).mono ?_
  rintro e1 w1 ⟨rfl, hw⟩
  rw [hw]; clear hw
  go_wp2
  refine bodyPost_ret (v := .agg (ws (turnL [a, b, c, d, e, f, g, h] kw))) ?_ rfl ⟨rfl, ?_⟩
  · simp [results, Tryd.results50, go_sem, ws, turnL, gw, T1, T2, S1, S0]
  · exact ((((((((below_drewN (((Below.refl _ w).alloc (Nat.le_refl _) _).alloc (by simp) _) _).setCell (p := ⟨w.heap.size + 1, 0, none⟩) (Nat.le_succ _) _).setCell (p := ⟨w.heap.size + 1, 1, none⟩) (Nat.le_succ _) _).setCell (p := ⟨w.heap.size + 1, 2, none⟩) (Nat.le_succ _) _).setCell (p := ⟨w.heap.size + 1, 3, none⟩) (Nat.le_succ _) _).setCell (p := ⟨w.heap.size + 1, 4, none⟩) (Nat.le_succ _) _).setCell (p := ⟨w.heap.size + 1, 5, none⟩) (Nat.le_succ _) _).setCell (p := ⟨w.heap.size + 1, 6, none⟩) (Nat.le_succ _) _).setCell (p := ⟨w.heap.size + 1, 7, none⟩) (Nat.le_succ _) _

/-- sha.turn, its answer written out. -/
theorem turn_exp (a b c d e f g h kw : Wd) (w : World) :
    Calls Tryd.prog 50 #[.agg #[.int .u32 (u a), .int .u32 (u b), .int .u32 (u c), .int .u32 (u d), .int .u32 (u e), .int .u32 (u f), .int .u32 (u g), .int .u32 (u h)], .int .u32 (u kw)] w fun r w' =>
      r = .returned (.agg #[.int .u32 (u (ad (T1 e f g h kw) (T2 a b c))), .int .u32 (u a), .int .u32 (u b), .int .u32 (u c), .int .u32 (u (ad d (T1 e f g h kw))), .int .u32 (u e), .int .u32 (u f), .int .u32 (u g)]) ∧ Below w.heap.size w w' :=
  turn_eight a b c d e f g h kw w

/-- sha.turn, at any state. -/
theorem turn_any (s : List Wd) (hs : s.length = 8) (kw : Wd) (w : World) :
    Calls Tryd.prog 50 #[.agg (ws s), .int .u32 (u kw)] w fun r w' => r = .returned (.agg (ws (turnL s kw))) ∧ Below w.heap.size w w' := by
  obtain ⟨a, b, c, d, e, f, g, h, rfl⟩ := eight hs
  exact turn_eight a b c d e f g h kw w
end Go.Proofs.YtlicflmpakkccaaDoor
