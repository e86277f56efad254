/-
  What the document's two answers; how it divides. Written by mktxget.py.
-/
import Derived.Test.YtiecpkkklefjdaaGreatDoorRows
import Derived.Test.YtiecpkkklefjdaaGreatDoorGuTxPlain
import Derived.WalkKit
import Derived.WalkSpells
import Derived.WalkLawsBesides
namespace Go.Proofs.YtiecpkkklefjdaaGreatDoor
open Go Go.RowKit

set_option maxHeartbeats 4000000 in
theorem twoN (k : Nat) (h : k ≤ 8) (w : World) : Calls Tryz.prog 18 #[.int .i64 (k : Int)] w fun e w' => e = .returned (.int .i64 ((2 ^ k : Nat) : Int)) ∧ w' = w := by
  rcases (show k = 0 ∨ k = 1 ∨ k = 2 ∨ k = 3 ∨ k = 4 ∨ k = 5 ∨ k = 6 ∨ k = 7 ∨ k = 8 by omega) with rfl | rfl | rfl | rfl | rfl | rfl | rfl | rfl | rfl
  · go_enter Tryz.func18, Tryz.ntmps18
    go_wp2
    refine wp_loop_rounds 1 ?_
    rw [rounds_succ]
    go_wp2
    go_ret
    exact ⟨rfl, rfl⟩
  · go_enter Tryz.func18, Tryz.ntmps18
    go_wp2
    refine wp_loop_rounds 2 ?_
    rw [rounds_succ]
    go_wp2
    rw [rounds_succ]
    go_wp2
    go_ret
    exact ⟨rfl, rfl⟩
  · go_enter Tryz.func18, Tryz.ntmps18
    go_wp2
    refine wp_loop_rounds 3 ?_
    rw [rounds_succ]
    go_wp2
    rw [rounds_succ]
    go_wp2
    rw [rounds_succ]
    go_wp2
    go_ret
    exact ⟨rfl, rfl⟩
  · go_enter Tryz.func18, Tryz.ntmps18
    go_wp2
    refine wp_loop_rounds 4 ?_
    rw [rounds_succ]
    go_wp2
    rw [rounds_succ]
    go_wp2
    rw [rounds_succ]
    go_wp2
    rw [rounds_succ]
    go_wp2
    go_ret
    exact ⟨rfl, rfl⟩
  · go_enter Tryz.func18, Tryz.ntmps18
    go_wp2
    refine wp_loop_rounds 5 ?_
    rw [rounds_succ]
    go_wp2
    rw [rounds_succ]
    go_wp2
    rw [rounds_succ]
    go_wp2
    rw [rounds_succ]
    go_wp2
    rw [rounds_succ]
    go_wp2
    go_ret
    exact ⟨rfl, rfl⟩
  · go_enter Tryz.func18, Tryz.ntmps18
    go_wp2
    refine wp_loop_rounds 6 ?_
    rw [rounds_succ]
    go_wp2
    rw [rounds_succ]
    go_wp2
    rw [rounds_succ]
    go_wp2
    rw [rounds_succ]
    go_wp2
    rw [rounds_succ]
    go_wp2
    rw [rounds_succ]
    go_wp2
    go_ret
    exact ⟨rfl, rfl⟩
  · go_enter Tryz.func18, Tryz.ntmps18
    go_wp2
    refine wp_loop_rounds 7 ?_
    rw [rounds_succ]
    go_wp2
    rw [rounds_succ]
    go_wp2
    rw [rounds_succ]
    go_wp2
    rw [rounds_succ]
    go_wp2
    rw [rounds_succ]
    go_wp2
    rw [rounds_succ]
    go_wp2
    rw [rounds_succ]
    go_wp2
    go_ret
    exact ⟨rfl, rfl⟩
  · go_enter Tryz.func18, Tryz.ntmps18
    go_wp2
    refine wp_loop_rounds 8 ?_
    rw [rounds_succ]
    go_wp2
    rw [rounds_succ]
    go_wp2
    rw [rounds_succ]
    go_wp2
    rw [rounds_succ]
    go_wp2
    rw [rounds_succ]
    go_wp2
    rw [rounds_succ]
    go_wp2
    rw [rounds_succ]
    go_wp2
    rw [rounds_succ]
    go_wp2
    go_ret
    exact ⟨rfl, rfl⟩
  · go_enter Tryz.func18, Tryz.ntmps18
    go_wp2
    refine wp_loop_rounds 9 ?_
    rw [rounds_succ]
    go_wp2
    rw [rounds_succ]
    go_wp2
    rw [rounds_succ]
    go_wp2
    rw [rounds_succ]
    go_wp2
    rw [rounds_succ]
    go_wp2
    rw [rounds_succ]
    go_wp2
    rw [rounds_succ]
    go_wp2
    rw [rounds_succ]
    go_wp2
    rw [rounds_succ]
    go_wp2
    go_ret
    exact ⟨rfl, rfl⟩

/-- two of bits - 1, two of bits. -/
theorem two_low (B M : Int) (d : Nat) (h : Tx.Bt B M) (hd : M + 1 = (d : Int)) (w : World) : Calls Tryz.prog 18 #[.int .i64 (B - 1)] w fun e w' => e = .returned (.int .i64 (d : Int)) ∧ w' = w := by
  obtain ⟨k, hk, h1, h2⟩ := h.nat
  rw [h2, show (k : Int) + 1 - 1 = (k : Int) by omega, ← hd, h1]
  exact twoN k (by omega) w
theorem two_all (B M : Int) (h : Tx.Bt B M) (w : World) : Calls Tryz.prog 18 #[.int .i64 B] w fun e w' => e = .returned (.int .i64 (2 * M + 2)) ∧ w' = w := by
  obtain ⟨k, hk, h1, h2⟩ := h.nat
  rw [h2, show (k : Int) + 1 = ((k + 1 : Nat) : Int) by omega, show 2 * M + 2 = ((2 ^ (k + 1) : Nat) : Int) by rw [Nat.pow_succ]; omega]
  exact twoN (k + 1) (by omega) w
section
variable {P : Program} {a : Act} {o : Oper}
theorem run_quoN (t t' : TypeId) (x y : Operand) (m d c : Nat) (hc : c = m / d) (hd : 0 < d) (ho : o.op = .binOp .quo t x y t') (hx : a.eval x = .int .i64 (m : Int)) (hy : a.eval y = .int .i64 (d : Int)) (hm : m < 9223372036854775808) (W : World) :
    (execOp a.eval o).run P W = .ok (.value (.int .i64 (c : Int))) W := by
  have hle : m / d ≤ m := Nat.div_le_self _ _
  have h0 : ¬ ((d : Int) = 0) := by omega
  have hq : (m : Int).tdiv (d : Int) = ((m / d : Nat) : Int) := by rw [Int.tdiv_eq_ediv_of_nonneg (by omega), Int.natCast_ediv]
  have hw : IntKind.i64.wrap ((m / d : Nat) : Int) = ((m / d : Nat) : Int) := by rw [IntKind.wrap_i64]; omega
  rw [hc]
  unfold execOp
  simp only [ho, hx, hy]
  generalize hz : m / d = z at *
  go_simp
  omega
theorem run_remN (t t' : TypeId) (x y : Operand) (m d c : Nat) (hc : c = m % d) (hd : 0 < d) (ho : o.op = .binOp .rem t x y t') (hx : a.eval x = .int .i64 (m : Int)) (hy : a.eval y = .int .i64 (d : Int)) (hm : m < 9223372036854775808) (W : World) :
    (execOp a.eval o).run P W = .ok (.value (.int .i64 (c : Int))) W := by
  have hle : m % d ≤ m := Nat.mod_le _ _
  have h0 : ¬ ((d : Int) = 0) := by omega
  have hq : (m : Int).tmod (d : Int) = ((m % d : Nat) : Int) := by rw [Int.tmod_eq_emod_of_nonneg (by omega), Int.natCast_emod]
  have hw : IntKind.i64.wrap ((m % d : Nat) : Int) = ((m % d : Nat) : Int) := by rw [IntKind.wrap_i64]; omega
  rw [hc]
  unfold execOp
  simp only [ho, hx, hy]
  generalize hz : m % d = z at *
  go_simp
  omega
end
end Go.Proofs.YtiecpkkklefjdaaGreatDoor
