/-
  What flow.Stream, flow.ID and the document's answer.
-/
import Derived.Test.YtepkajaallcnmaaFlSpend
import Derived.Laws.BitsAll
namespace Go.Proofs.Ytepkajaallcnmaa
open Go Go.RowKit

theorem nat_and_two (x : Nat) : x &&& 2 = 2 * (x / 2 % 2) := by
  apply Nat.eq_of_testBit_eq
  intro i
  rw [Nat.testBit_and]
  rcases i with _ | _ | i
  · simp [Nat.testBit, Nat.shiftRight_eq_div_pow]
  · rcases Nat.mod_two_eq_zero_or_one (x / 2) with h | h <;> simp [Nat.testBit, Nat.shiftRight_eq_div_pow, h]
  · have h2 : Nat.testBit 2 (i + 2) = false := by
      apply Nat.testBit_lt_two_pow
      have : 2 ^ (i + 2) = 4 * 2 ^ i := by rw [Nat.pow_add]; omega
      have := Nat.one_le_two_pow (n := i)
      omega
    rw [h2, Bool.and_false]
    symm
    apply Nat.testBit_lt_two_pow
    have : 2 ^ (i + 2) = 4 * 2 ^ i := by rw [Nat.pow_add]; omega
    have := Nat.one_le_two_pow (n := i)
    omega
theorem and_one (x : Nat) (hx : x < 18446744073709551616) : bits .and .u64 (x : Int) 1 = ((x % 2 : Nat) : Int) := by
  rw [u64_and _ _ (by omega) (by omega) (by omega) (by omega)]
  show ((x &&& 2 ^ 1 - 1 : Nat) : Int) = _
  rw [Nat.and_two_pow_sub_one_eq_mod]
theorem and_two (x : Nat) (hx : x < 18446744073709551616) : bits .and .u64 (x : Int) 2 = ((2 * (x / 2 % 2) : Nat) : Int) := by
  rw [u64_and _ _ (by omega) (by omega) (by omega) (by omega)]
  show ((x &&& 2 : Nat) : Int) = _
  rw [nat_and_two]
theorem or_one (n : Nat) (hn : n ≤ 1152921504606846975) : bits .or .u64 ((n : Int) * 4) 1 = ((4 * n + 1 : Nat) : Int) := by
  rw [u64_or _ _ (by omega) (by omega) (by omega) (by omega)]
  congr 1
  rw [show ((n : Int) * 4).toNat = n <<< 2 by rw [Nat.shiftLeft_eq]; omega, show (1 : Int).toNat = 1 from rfl]
  rw [← Nat.shiftLeft_add_eq_or_of_lt (show 1 < 2 ^ 2 by omega), Nat.shiftLeft_eq]
  omega
theorem or_two (n : Nat) (hn : n ≤ 1152921504606846975) : bits .or .u64 ((n : Int) * 4) 2 = ((4 * n + 2 : Nat) : Int) := by
  rw [u64_or _ _ (by omega) (by omega) (by omega) (by omega)]
  congr 1
  rw [show ((n : Int) * 4).toNat = n <<< 2 by rw [Nat.shiftLeft_eq]; omega, show (2 : Int).toNat = 2 from rfl]
  rw [← Nat.shiftLeft_add_eq_or_of_lt (show 2 < 2 ^ 2 by omega), Nat.shiftLeft_eq]
  omega
theorem or_three (n : Nat) (hn : n ≤ 1152921504606846975) : bits .or .u64 ((4 * n + 1 : Nat) : Int) 2 = ((4 * n + 3 : Nat) : Int) := by
  rw [u64_or _ _ (by omega) (by omega) (by omega) (by omega)]
  congr 1
  rw [show (((4 * n + 1 : Nat) : Int)).toNat = n <<< 2 ||| 1 by rw [← Nat.shiftLeft_add_eq_or_of_lt (show 1 < 2 ^ 2 by omega), Nat.shiftLeft_eq]; omega, show (2 : Int).toNat = 2 from rfl, Nat.or_assoc]
  rw [show 1 ||| 2 = 3 from rfl, ← Nat.shiftLeft_add_eq_or_of_lt (show 3 < 2 ^ 2 by omega), Nat.shiftLeft_eq]
  omega
def b0 (x : Nat) : Bool := decide (x % 2 = 1)
def b1 (x : Nat) : Bool := decide (x / 2 % 2 = 1)
theorem ne0 {b : Nat} (h : b = 0 ∨ b = 1) : ((b : Int) != 0) = decide (b = 1) := by rcases h with rfl | rfl <;> rfl
theorem eq1 {b : Nat} (h : b = 0 ∨ b = 1) : ((b : Int) == 1) = decide (b = 1) := by rcases h with rfl | rfl <;> rfl
theorem ne02 {b : Nat} (h : b = 0 ∨ b = 1) : (((2 * b : Nat) : Int) != 0) = decide (b = 1) := by rcases h with rfl | rfl <;> rfl
theorem eq22 {b : Nat} (h : b = 0 ∨ b = 1) : (((2 * b : Nat) : Int) == 2) = decide (b = 1) := by rcases h with rfl | rfl <;> rfl

theorem s0 (x : Nat) : ((x : Int) % 2 != 0) = b0 x := ne0 (Nat.mod_two_eq_zero_or_one x)
theorem s1 (x : Nat) : (2 * ((x : Int) / 2 % 2) != 0) = b1 x := ne02 (Nat.mod_two_eq_zero_or_one (x / 2))
theorem t0 (x : Nat) : ((x : Int) % 2 == 1) = b0 x := eq1 (Nat.mod_two_eq_zero_or_one x)
theorem t1 (x : Nat) : (2 * ((x : Int) / 2 % 2) == 2) = b1 x := eq22 (Nat.mod_two_eq_zero_or_one (x / 2))

set_option maxRecDepth 20000 in
theorem stream_any (x : Nat) (w : World) (hx : x < 18446744073709551616) :
    Calls Try.prog 20 #[.int .u64 (x : Int)] w fun e w' => e = .returned (.tuple #[.bool (b0 x), .bool (b1 x), .int .u64 ((x / 4 : Nat) : Int)]) ∧ w' = w := by
  have e1 := and_one x hx
  have e2 := and_two x hx
  go_enter Try.func20, Try.ntmps20
  go_wp2_with fail
  go_ret3
  refine ⟨?_, rfl⟩
  rw [← s0 x, ← s1 x]
  rfl
set_option maxRecDepth 20000 in
theorem refStream_any (x : Nat) (w : World) (hx : x < 18446744073709551616) :
    Calls Try.prog 21 #[.int .u64 (x : Int)] w fun e w' => e = .returned (.tuple #[.bool (b0 x), .bool (b1 x), .int .u64 ((x / 4 : Nat) : Int)]) ∧ w' = w := by
  have e1 := and_one x hx
  have e2 := and_two x hx
  go_enter Try.func21, Try.ntmps21
  go_wp2_with fail
  go_ret3
  refine ⟨?_, rfl⟩
  rw [← t0 x, ← t1 x]
  rfl
set_option maxRecDepth 20000 in
theorem id_any (s o : Bool) (n : Nat) (w : World) (hn : n < 18446744073709551616) :
    Calls Try.prog 22 #[.bool s, .bool o, .int .u64 (n : Int)] w fun e w' => e = .returned (.tuple #[.int .u64 (idN s o n : Int), .int .i64 (idE n)]) ∧ w' = w := by
  by_cases h : n ≤ 1152921504606846975
  · rw [show idN s o n = 4 * n + (if s then 1 else 0) + (if o then 2 else 0) from if_pos h, show idE n = 0 from if_pos h]
    have m1 := or_one n h
    have m2 := or_two n h
    have m3 := or_three n h
    cases s <;> cases o
    · go_enter Try.func22, Try.ntmps22
      go_wp2_with fail
      go_ret2
      refine ⟨?_, rfl⟩
      rw [Int.mul_comm 4 (n : Int)]
      rfl
    · rw [show ((4 * n + (if (false : Bool) = true then 1 else 0) + (if (true : Bool) = true then 2 else 0) : Nat) : Int) = ((4 * n + 2 : Nat) : Int) by simp]
      generalize 4 * n + 2 = K at *
      generalize 4 * n + 1 = K1 at *
      go_enter Try.func22, Try.ntmps22
      go_wp2_with fail
      go_ret2
      exact ⟨rfl, rfl⟩
    · rw [show ((4 * n + (if (true : Bool) = true then 1 else 0) + (if (false : Bool) = true then 2 else 0) : Nat) : Int) = ((4 * n + 1 : Nat) : Int) by simp]
      generalize 4 * n + 1 = K at *
      go_enter Try.func22, Try.ntmps22
      go_wp2_with fail
      go_ret2
      exact ⟨rfl, rfl⟩
    · rw [show ((4 * n + (if (true : Bool) = true then 1 else 0) + (if (true : Bool) = true then 2 else 0) : Nat) : Int) = ((4 * n + 3 : Nat) : Int) by simp; omega]
      generalize 4 * n + 3 = K3 at *
      generalize 4 * n + 1 = K at *
      go_enter Try.func22, Try.ntmps22
      go_wp2_with fail
      go_ret2
      exact ⟨rfl, rfl⟩
  · rw [show idN s o n = 0 from if_neg h, show idE n = 1 from if_neg h]
    go_enter Try.func22, Try.ntmps22
    go_wp2_with fail
    go_ret2
    exact ⟨rfl, rfl⟩
set_option maxRecDepth 20000 in
theorem refId_any (s o : Bool) (n : Nat) (w : World) (hn : n < 18446744073709551616) :
    Calls Try.prog 23 #[.bool s, .bool o, .int .u64 (n : Int)] w fun e w' => e = .returned (.tuple #[.int .u64 (idN s o n : Int), .int .i64 (idE n)]) ∧ w' = w := by
  by_cases h : n ≤ 1152921504606846975
  · rw [show idN s o n = 4 * n + (if s then 1 else 0) + (if o then 2 else 0) from if_pos h, show idE n = 0 from if_pos h]
    cases s <;> cases o
    · go_enter Try.func23, Try.ntmps23
      go_wp2_with fail
      go_ret2
      exact ⟨rfl, rfl⟩
    · rw [show ((4 * n + (if (false : Bool) = true then 1 else 0) + (if (true : Bool) = true then 2 else 0) : Nat) : Int) = 4 * (n : Int) + 2 by simp]
      go_enter Try.func23, Try.ntmps23
      go_wp2_with fail
      go_ret2
      exact ⟨rfl, rfl⟩
    · rw [show ((4 * n + (if (true : Bool) = true then 1 else 0) + (if (false : Bool) = true then 2 else 0) : Nat) : Int) = 4 * (n : Int) + 1 by simp]
      go_enter Try.func23, Try.ntmps23
      go_wp2_with fail
      go_ret2
      exact ⟨rfl, rfl⟩
    · rw [show ((4 * n + (if (true : Bool) = true then 1 else 0) + (if (true : Bool) = true then 2 else 0) : Nat) : Int) = 4 * (n : Int) + 1 + 2 by simp; try omega]
      go_enter Try.func23, Try.ntmps23
      go_wp2_with fail
      go_ret2
      exact ⟨rfl, rfl⟩
  · rw [show idN s o n = 0 from if_neg h, show idE n = 1 from if_neg h]
    go_enter Try.func23, Try.ntmps23
    go_wp2_with fail
    go_ret2
    exact ⟨rfl, rfl⟩
end Go.Proofs.Ytepkajaallcnmaa
