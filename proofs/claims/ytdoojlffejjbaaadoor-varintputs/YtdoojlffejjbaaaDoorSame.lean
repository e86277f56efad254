/-
  What SameBytes answers.
-/
import Derived.Test.YtdoojlffejjbaaaDoorHelp
namespace Go.Proofs.YtdoojlffejjbaaaDoor
open Go.RowKit

theorem Lies.belowL {w w' : World} {a : Option Addr} {zs : List Int} (h : Lies w a zs) (hb : Below w.heap.size w w') : Lies w' a zs := by
  rcases h with h | ⟨b, off, rfl, hlt, hc⟩
  · exact .inl h
  · exact .inr ⟨b, off, rfl, Nat.lt_of_lt_of_le hlt hb.size, fun j hj => (hb.cell (p := ⟨b, off + j, none⟩) hlt).trans (hc j hj)⟩

theorem Lies.at {w : World} {a : Option Addr} {zs : List Int} (h : Lies w a zs) {k : Nat} (hk : k < zs.length) : ∃ b off, a = some ⟨b, off, none⟩ ∧ w.cell? ⟨b, off + k, none⟩ = some (.int .u8 (zs[k]?.getD 0)) := by
  rcases h with h | ⟨b, off, rfl, _, hc⟩
  · rw [h] at hk; exact absurd hk (Nat.not_lt_zero _)
  · exact ⟨b, off, rfl, hc k hk⟩

set_option maxHeartbeats 400000 in
theorem same_len (a a' : Option Addr) (n m c c' : Nat) (w : World) (h : n ≠ m) :
    Calls Tryd.prog 10 #[.slice a n c, .slice a' m c'] w fun e w' => e = .returned (.bool false) ∧ w' = w := by
  have hne : ((n : Int) != (m : Int)) = true := by simp; omega
  go_enter Tryd.func10, Tryd.ntmps10
  go_wp2
  go_ret
  exact ⟨rfl, rfl⟩

theorem ret_bool {a b : Bool} (h : a = b) : Ending.returned (.bool a) = .returned (.bool b) := by rw [h]

theorem take_more {xs ys : List Int} {k : Nat} (hx : k < xs.length) (hy : k < ys.length) (h : xs.take k = ys.take k) (e : xs[k]?.getD 0 = ys[k]?.getD 0) : xs.take (k + 1) = ys.take (k + 1) := by
  rw [List.take_succ_eq_append_getElem hx, List.take_succ_eq_append_getElem hy, h]
  congr 1
  simpa [hx, hy] using e

set_option maxHeartbeats 1000000 in
theorem same_any (a a' : Option Addr) (len c c' : Nat) (xs ys : List Int) (w : World) (hx : xs.length = len) (hy : ys.length = len) (hl : len ≤ 1073741824) (hX : Lies w a xs) (hY : Lies w a' ys) :
    Calls Tryd.prog 10 #[.slice a len c, .slice a' len c'] w fun e w' => e = .returned (.bool (decide (xs = ys))) ∧ Below w.heap.size w w' := by
  have HX : Hid (xs.length = len) := hx
  have HY : Hid (ys.length = len) := hy
  have HLX : Hid (Lies w a xs) := hX
  have HLY : Hid (Lies w a' ys) := hY
  have h1 : ((len : Int) != (len : Int)) = false := by simp
  clear hx hy hX hY
  go_enter Tryd.func10, Tryd.ntmps10
  go_wp2
  go_loopw [5] (fun i wr => ∃ k : Nat, k ≤ len ∧ i = .int .i64 k ∧ Below w.heap.size w wr ∧ xs.take k = ys.take k)
    (fun i _ => len - (intOf i).toNat)
  case atStart => exact ⟨0, Nat.zero_le _, rfl, Below.refl _ _, rfl⟩
  case round =>
    obtain ⟨k, hk, rfl, hbel, htk⟩ := hrel
    have HT : Hid (xs.take k = ys.take k) := htk
    clear htk
    by_cases hlt : k < len
    · obtain ⟨b1, o1, rfl, hc1⟩ := (HLX.out.belowL hbel).at (k := k) (by rw [HX.out]; exact hlt)
      obtain ⟨b2, o2, rfl, hc2⟩ := (HLY.out.belowL hbel).at (k := k) (by rw [HY.out]; exact hlt)
      by_cases he : xs[k]?.getD 0 = ys[k]?.getD 0
      · have HN : Hid (xs.take (k + 1) = ys.take (k + 1)) := take_more (by rw [HX.out]; exact hlt) (by rw [HY.out]; exact hlt) HT.out he
        rw [he] at hc1
        clear he HT
        generalize ys[k]?.getD 0 = y at *
        have hxy : (y != y) = false := by simp
        go_wp2
        go_region
        all_goals go_wp2
        all_goals
          go_roundw
          case rel => exact ⟨k + 1, by omega, by go_num, hbel.drew, HN.out⟩
          case measure => simp [intOf]; omega
      · have HN : Hid (xs ≠ ys) := fun e => he (by rw [e])
        have hxy : (xs[k]?.getD 0 != ys[k]?.getD 0) = true := by simpa using he
        clear he HT
        generalize ys[k]?.getD 0 = y at *
        generalize xs[k]?.getD 0 = x at *
        go_wp2
        go_region
        all_goals go_wp2
        all_goals
          go_ret
          exact ⟨ret_bool (decide_eq_false HN.out).symm, hbel.drew⟩
    · have hkl : k = len := by omega
      have HE : Hid (xs = ys) := by
        have h := HT.out
        rw [List.take_of_length_le (by rw [HX.out]; omega), List.take_of_length_le (by rw [HY.out]; omega)] at h
        exact h
      go_wp2
      go_ret
      exact ⟨ret_bool (decide_eq_true HE.out).symm, hbel⟩
end Go.Proofs.YtdoojlffejjbaaaDoor
