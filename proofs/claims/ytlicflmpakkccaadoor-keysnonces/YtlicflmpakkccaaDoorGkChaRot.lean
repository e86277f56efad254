/-
  What the small functions on words answer.
-/
import Derived.Test.YtlicflmpakkccaaDoorRows
import Derived.Test.YtlicflmpakkccaaDoorGk3
import Derived.Deep.QuietTactic
import Derived.BigQuiet
namespace Go.Proofs.YtlicflmpakkccaaDoor
open Go Go.RowKit

theorem and31' (n : Int) (h0 : 1 ≤ n) (h1 : n ≤ 31) : bits .and .u64 n 31 = n := by
  rw [u64_and _ _ (by omega) (by omega) (by omega) (by omega)]
  have e : (31 : Int).toNat = 2 ^ 5 - 1 := rfl
  rw [e, Nat.and_two_pow_sub_one_eq_mod]
  omega

set_option maxHeartbeats 400000 in
theorem rotl_any (x : Wd) (n : Int) (w : World) (h0 : 1 ≤ n) (h1 : n ≤ 31) :
    Calls Tryd.prog 33 #[.int .u32 (u x), .int .i64 n] w fun e w' => e = .returned (.int .u32 (u (rl x n.toNat))) ∧ w' = w := by
  have hx0 := u_nn x
  have hx1 := u_le x
  have ha := and31' n h0 h1
  have hs1 := wsl x n.toNat
  have hs2 := wsr x (32 - n.toNat)
  have hb : bits .or .u32 (u (sl x n.toNat)) (u (sr x (32 - n.toNat))) = u (rl x n.toNat) := bo (sl x n.toNat) (sr x (32 - n.toNat))
  have e1 : (32 - n).toNat = 32 - n.toNat := by omega
  go_enter Tryd.func33, Tryd.ntmps33
  go_wp2
  go_ret
  exact ⟨rfl, rfl⟩

set_option maxHeartbeats 400000 in
theorem mix_any (a b x : Wd) (n : Int) (w : World) (h0 : 1 ≤ n) (h1 : n ≤ 31) :
    Calls Tryd.prog 28 #[.int .u32 (u a), .int .u32 (u b), .int .u32 (u x), .int .i64 n] w fun e w' => e = .returned (.tuple #[.int .u32 (u (ad a b)), .int .u32 (u (rl (xr x (ad a b)) n.toNat))]) ∧ w' = w := by
  have hp := wadd a b
  have hx := bx x (ad a b)
  go_enter Tryd.func28, Tryd.ntmps28
  go_wp2_with fail
  refine (rotl_any (xr x (ad a b)) n _ h0 h1).mono ?_
  rintro e w' ⟨rfl, rfl⟩
  go_wp2
  go_ret2
  exact ⟨rfl, rfl⟩

set_option maxHeartbeats 400000 in
theorem quarterRound_any (a b c d : Wd) (w : World) :
    Calls Tryd.prog 24 #[.int .u32 (u a), .int .u32 (u b), .int .u32 (u c), .int .u32 (u d)] w fun e w' => e = .returned (.tuple #[.int .u32 (u (qA a b c d)), .int .u32 (u (qB a b c d)), .int .u32 (u (qC a b c d)), .int .u32 (u (qD a b c d))]) ∧ w' = w := by
  go_enter Tryd.func24, Tryd.ntmps24
  go_wp2_with fail
  refine (mix_any a b d 16 _ (by omega) (by omega)).mono ?_
  rintro e w1 ⟨rfl, rfl⟩
  go_wp2_with fail
  refine (mix_any c (qd1 a b d) b 12 _ (by omega) (by omega)).mono ?_
  rintro e w1 ⟨rfl, rfl⟩
  go_wp2_with fail
  refine (mix_any (qa1 a b) (qb1 a b c d) (qd1 a b d) 8 _ (by omega) (by omega)).mono ?_
  rintro e w1 ⟨rfl, rfl⟩
  go_wp2_with fail
  refine (mix_any (qc1 a b c d) (qD a b c d) (qb1 a b c d) 7 _ (by omega) (by omega)).mono ?_
  rintro e w1 ⟨rfl, rfl⟩
  go_wp2
  exact bodyPost_ret (v := .tuple #[.int .u32 (u (qA a b c d)), .int .u32 (u (qB a b c d)), .int .u32 (u (qC a b c d)), .int .u32 (u (qD a b c d))]) (by simp [results, Tryd.results24, go_sem]; exact ⟨rfl, rfl, rfl, rfl⟩) rfl ⟨rfl, rfl⟩
end Go.Proofs.YtlicflmpakkccaaDoor
