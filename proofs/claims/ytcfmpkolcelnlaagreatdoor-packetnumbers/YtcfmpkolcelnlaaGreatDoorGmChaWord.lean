/-
  What the functions that take four bytes as a word answer.
-/
import Derived.Test.YtcfmpkolcelnlaaGreatDoorRows
import Derived.Test.YtcfmpkolcelnlaaGreatDoorGm2
import Derived.Deep.QuietTactic
import Derived.BigQuiet
namespace Go.Proofs.YtcfmpkolcelnlaaGreatDoor
open Go Go.RowKit

set_option maxRecDepth 20000 in
set_option maxHeartbeats 400000 in
theorem wordAt_any (g n p : Nat) (t : TypeId) (b : List By) (hb : b.length = n) (hp : 4 * p + 4 ≤ n) (hn : n ≤ 64) (w : World) (hr : Row w g t (bs b)) :
    Calls Tryz.prog 188 #[.slice (some ⟨g, 0, none⟩) n n, .int .i64 p] w fun e w' => e = .returned (.int .u32 (u (wordLE b p))) ∧ w' = w := by
  have HB : Hid (b.length = n) := hb
  have HR : Hid (Row w g t (bs b)) := hr
  clear hb hr
  go_enter Tryz.func188, Tryz.ntmps188
  go_wp2
  go_loopw [5, 7] (fun v i wr => ∃ j : Nat, j ≤ 4 ∧ i = .int .i64 j ∧ v = .int .u32 (u (wordTo b p j)) ∧ wr = w) (fun _ i _ => 4 - (intOf i).toNat)
  case atStart => exact ⟨0, by omega, rfl, rfl, rfl⟩
  case round =>
    obtain ⟨j, hj, rfl, rfl, rfl⟩ := hrel
    by_cases hlt : j < 4
    · have c0 := HR.out.cellB (j := 4 * p + j) (by rw [HB.out]; omega)
      rw [v8_ex] at c0
      have HE : Hid (wordTo b p (j + 1) = oo (wordTo b p j) (sl (ex (gb b (4 * p + j))) (8 * j))) := rfl
      have u0 := u_nn (ex (gb b (4 * p + j)))
      have u1 := u_le (ex (gb b (4 * p + j)))
      generalize ex (gb b (4 * p + j)) = x at *
      have hs := wsl x (8 * j)
      have ho := bo (wordTo b p j) (sl x (8 * j))
      generalize wordTo b p j = y at *
      have q0 : (4 * (p : Int) + (j : Int)).toNat = 4 * p + j := by omega
      have q1 : (8 * (j : Int)).toNat = 8 * j := by omega
      have p0 : (0 : Int) ≤ 4 * (p : Int) + (j : Int) ∧ 4 * (p : Int) + (j : Int) < (n : Int) := by omega
      have hw0 : IntKind.i64.wrap (4 * (p : Int)) = 4 * (p : Int) := by rw [IntKind.wrap_i64]; omega
      have hw1 : IntKind.i64.wrap (4 * (p : Int) + (j : Int)) = 4 * (p : Int) + (j : Int) := by rw [IntKind.wrap_i64]; omega
      go_wp2
      go_roundw
      case rel => exact ⟨j + 1, by omega, by go_num, by rw [HE.out], trivial⟩
      case measure => simp [intOf]; omega
    · have HE : Hid (j = 4) := show j = 4 by omega
      have hd : decide ((j : Int) < 4) = false := by simp; omega
      go_wp2
      go_ret
      exact ⟨by rw [HE.out, wordTo_all]; rfl, rfl⟩
end Go.Proofs.YtcfmpkolcelnlaaGreatDoor
