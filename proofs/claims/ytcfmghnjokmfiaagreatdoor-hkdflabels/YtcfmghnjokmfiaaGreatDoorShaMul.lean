/-
  What math/bits.Mul64, sha.cube and sha.isAbove answer.
-/
import Derived.Test.YtcfmghnjokmfiaaGreatDoorRows
import Derived.WalkKit
import Derived.WalkSpells
import Derived.WalkLawsBesides
import Derived.Laws.MathBits
namespace Go.Proofs.YtcfmghnjokmfiaaGreatDoor
open Go Go.RowKit

theorem tup2u {a b a' b' : Int} (h1 : a = a') (h2 : b = b') : Ending.returned (.tuple #[.int .u64 a, .int .u64 b]) = .returned (.tuple #[.int .u64 a', .int .u64 b']) := by rw [h1, h2]
theorem mul64_eq (x y : Int) (hx0 : 0 ≤ x) (hx : x < 18446744073709551616) (hy0 : 0 ≤ y) (hy : y < 18446744073709551616) :
    IntKind.u64.wrap (IntKind.u64.wrap (IntKind.u64.wrap (x / 4294967296 * (y / 4294967296)) + IntKind.u64.wrap (IntKind.u64.wrap (x / 4294967296 * (y % 4294967296)) + IntKind.u64.wrap (x % 4294967296 * (y % 4294967296)) / 4294967296) / 4294967296) +
      IntKind.u64.wrap (bits BinOp.and IntKind.u64 (IntKind.u64.wrap (IntKind.u64.wrap (x / 4294967296 * (y % 4294967296)) + IntKind.u64.wrap (x % 4294967296 * (y % 4294967296)) / 4294967296)) 4294967295 + IntKind.u64.wrap (x % 4294967296 * (y / 4294967296))) / 4294967296) = x * y / 18446744073709551616 := by
  simp only [IntKind.wrap_u64]
  rw [and_low32 _ (by omega) (by omega)]
  exact mul64_arith x y hx0 hx hy0 hy

set_option maxHeartbeats 400000 in
theorem mul64_any (x y : Int) (w : World) (hx0 : 0 ≤ x) (hx : x < 18446744073709551616) (hy0 : 0 ≤ y) (hy : y < 18446744073709551616) :
    Calls Tryz.prog 108 #[.int .u64 x, .int .u64 y] w fun e w' => e = .returned (.tuple #[.int .u64 (x * y / 18446744073709551616), .int .u64 (x * y % 18446744073709551616)]) ∧ w' = w := by
  have hmask := and_low32
  go_enter Tryz.func108, Tryz.ntmps108
  go_wp2
  go_ret2
  exact ⟨tup2u (mul64_eq x y hx0 hx hy0 hy) (IntKind.wrap_u64 _), rfl⟩

/-- A cube, by its higher and its lower 64 bits. -/
theorem cube_arith (x : Int) (h0 : 0 ≤ x) (h1 : x ≤ 34359738368) :
    (IntKind.u64.wrap (x * x / 18446744073709551616 * x) + (x * x % 18446744073709551616) * x / 18446744073709551616 = x * x * x / 18446744073709551616) ∧ (x * x % 18446744073709551616) * x % 18446744073709551616 = x * x * x % 18446744073709551616 ∧ 0 ≤ x * x * x / 18446744073709551616 ∧ x * x * x / 18446744073709551616 < 18446744073709551616 := by
  have b1 : x * x ≤ 34359738368 * 34359738368 := Int.mul_le_mul h1 h1 h0 (by omega)
  have b0 : 0 ≤ x * x := Int.mul_nonneg h0 h0
  have c1 : x * x * x ≤ 34359738368 * 34359738368 * 34359738368 := Int.mul_le_mul b1 h1 h0 (by omega)
  have c0 : 0 ≤ x * x * x := Int.mul_nonneg b0 h0
  have hq0 : 0 ≤ x * x / 18446744073709551616 := by omega
  have hq1 : x * x / 18446744073709551616 ≤ 64 := by omega
  have e : x * x * x = (x * x / 18446744073709551616 * x) * 18446744073709551616 + (x * x % 18446744073709551616) * x := by
    have aux : ∀ q r : Int, x * x = q * 18446744073709551616 + r → x * x * x = q * x * 18446744073709551616 + r * x := fun q r h => by rw [h, Int.add_mul, Int.mul_right_comm]
    exact aux _ _ (by omega)
  have d1 : x * x / 18446744073709551616 * x ≤ 64 * 34359738368 := Int.mul_le_mul hq1 h1 h0 (by omega)
  have d0 : 0 ≤ x * x / 18446744073709551616 * x := Int.mul_nonneg hq0 h0
  rw [IntKind.wrap_u64]
  generalize x * x / 18446744073709551616 * x = A at *
  generalize x * x % 18446744073709551616 * x = B at *
  generalize x * x * x = C at *
  omega

set_option maxHeartbeats 400000 in
theorem cube_any (x : Int) (w : World) (h0 : 0 ≤ x) (h1 : x ≤ 34359738368) :
    Calls Tryz.prog 105 #[.int .u64 x] w fun e w' => e = .returned (.tuple #[.int .u64 (x * x * x / 18446744073709551616), .int .u64 (x * x * x % 18446744073709551616)]) ∧ w' = w := by
  obtain ⟨e1, e2, e3, e4⟩ := cube_arith x h0 h1
  have E2 : Hid ((x * x % 18446744073709551616) * x % 18446744073709551616 = x * x * x % 18446744073709551616) := e2
  have E1 : Hid (IntKind.u64.wrap (IntKind.u64.wrap (x * x / 18446744073709551616 * x) + (x * x % 18446744073709551616) * x / 18446744073709551616) = x * x * x / 18446744073709551616) := show IntKind.u64.wrap _ = _ by rw [e1, IntKind.wrap_u64]; omega
  clear e1 e2 e3 e4
  go_enter Tryz.func105, Tryz.ntmps105
  go_wp2_with fail
  refine (mul64_any x x _ (by omega) (by omega) (by omega) (by omega)).mono ?_
  rintro r w1 ⟨rfl, hw⟩
  rw [hw]; clear hw
  go_wp2_with fail
  refine (mul64_any (x * x % 18446744073709551616) x _ (by omega) (by omega) (by omega) (by omega)).mono ?_
  rintro r w1 ⟨rfl, hw⟩
  rw [hw]; clear hw
  go_wp2
  go_ret2
  exact ⟨tup2u E1.out E2.out, rfl⟩

/-- Is the number of 128 bits above n with 64 bits 0 behind it? -/
def aboveB (h l n : Int) : Bool := decide (n < h ∨ h = n ∧ 0 < l)
theorem aboveB_iff (c n : Int) (_h0 : 0 ≤ c) : aboveB (c / 18446744073709551616) (c % 18446744073709551616) n = decide (n * 18446744073709551616 < c) := by
  unfold aboveB
  congr 1
  apply propext
  omega

set_option maxHeartbeats 400000 in
theorem isAbove_any (h l n : Int) (w : World) (hl : 0 ≤ l) :
    Calls Tryz.prog 106 #[.int .u64 h, .int .u64 l, .int .u64 n] w fun e w' => e = .returned (.bool (aboveB h l n)) ∧ w' = w := by
  by_cases h1 : n < h
  · have hd : decide (n < h) = true := decide_eq_true h1
    have he : aboveB h l n = true := decide_eq_true (.inl h1)
    rw [he]
    clear he
    go_enter Tryz.func106, Tryz.ntmps106
    go_wp2
    go_ret
    exact ⟨rfl, rfl⟩
  · have hd : decide (n < h) = false := decide_eq_false h1
    by_cases h2 : h = n
    · subst h2
      by_cases h3 : 0 < l
      · have he : aboveB h l h = true := decide_eq_true (.inr ⟨rfl, h3⟩)
        have hd3 : decide (0 < l) = true := decide_eq_true h3
        rw [he]
        clear he
        go_enter Tryz.func106, Tryz.ntmps106
        go_wp2
        go_ret
        exact ⟨rfl, rfl⟩
      · have he : aboveB h l h = false := decide_eq_false (by omega)
        have hd3 : decide (0 < l) = false := decide_eq_false h3
        rw [he]
        clear he
        go_enter Tryz.func106, Tryz.ntmps106
        go_wp2
        go_ret
        exact ⟨rfl, rfl⟩
    · have he : aboveB h l n = false := decide_eq_false (by omega)
      have hb : (h == n) = false := by simp [h2]
      rw [he]
      clear he
      go_enter Tryz.func106, Tryz.ntmps106
      go_wp2
      go_ret
      exact ⟨rfl, rfl⟩
end Go.Proofs.YtcfmghnjokmfiaaGreatDoor
