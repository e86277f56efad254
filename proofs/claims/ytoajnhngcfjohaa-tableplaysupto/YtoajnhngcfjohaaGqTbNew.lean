/-
  The program's New.
-/
import Derived.Test.YtoajnhngcfjohaaGq4
namespace Go.Proofs.Ytoajnhngcfjohaa
open Go Go.RowKit

namespace Tb
def emA : List Fd := List.replicate 256 fd0
theorem ptOk_new {w : World} {b r : Nat} (hr : r ≤ 4096) (x : PtR w b r 0 0 emA 0 0) : PtOk w b ⟨r, 0, []⟩ emA 0 0 :=
  ⟨x, by unfold emA; exact List.length_replicate, rfl, by omega, fun j hj => absurd hj (Nat.not_lt_zero _), Nat.zero_le _, hr, Nat.zero_le _⟩
set_option maxRecDepth 100000 in
set_option maxHeartbeats 4000000 in
theorem tab_new_no (n : Int) (hn : ¬ (0 ≤ n ∧ n ≤ 4096)) (w : World) : Calls Try.prog 12 #[.int .i64 n] w fun e w' => e = .returned (.tuple #[.pointer none, .int .i64 1]) ∧ w' = w := by
  have hd : decide (0 ≤ n ∧ n ≤ 4096) = false := decide_eq_false hn
  have hmay : ∀ W, Calls Try.prog 31 #[.int .i64 n] W fun e w' => e = .returned (.bool false) ∧ w' = W := by
    intro W
    have := tab_may n W
    rw [hd] at this
    exact this
  clear hd hn
  go_enter Try.func12, Try.ntmps12
  go_wp2_with (go_at_call 31; refine (hmay _).mono ?_; rintro e1 w ⟨rfl, rfl⟩)
  go_ret2
  exact ⟨rfl, rfl⟩
set_option maxRecDepth 100000 in
set_option maxHeartbeats 4000000 in
theorem tab_new (m : Nat) (hm : m ≤ 4096) (w : World) : Calls Try.prog 12 #[.int .i64 (m : Int)] w fun e w' => e = .returned (.tuple #[.pointer (some ⟨w.heap.size, 0, none⟩), .int .i64 0]) ∧ PtOk w' w.heap.size ⟨m, 0, []⟩ emA 0 0 ∧ Below w.heap.size w w' := by
  have hd : decide (0 ≤ (m : Int) ∧ (m : Int) ≤ 4096) = true := decide_eq_true (by omega)
  have hmay : ∀ W, Calls Try.prog 31 #[.int .i64 (m : Int)] W fun e w' => e = .returned (.bool true) ∧ w' = W := by
    intro W
    have := tab_may (m : Int) W
    rw [hd] at this
    exact this
  clear hd
  go_enter Try.func12, Try.ntmps12
  go_wp2_with first
    | (go_at_call 31; refine (hmay _).mono ?_; rintro e1 w ⟨rfl, rfl⟩)
    | (with_reducible (show wpList _ _ _ (⟨_, Op.build 60 _, _, _, _, _⟩ :: _) _ _)
       refine wpL_valP rfl (.agg (ptC m 0 0 emA 0 0)) w (by as_aux_lemma => kernel_rfl) ?_
       generalize hC : ptC m 0 0 emA 0 0 = C)
  go_ret2
  exact ⟨rfl, ptOk_new hm (show Row _ _ _ (ptC m 0 0 emA 0 0) from by rw [hC]; exact Row.new w _ C), (Below.refl w.heap.size w).alloc (Nat.le_refl _) _⟩
end Tb
end Go.Proofs.Ytoajnhngcfjohaa
