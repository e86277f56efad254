/-
  Numbers as lists of places below 256: no program in sight.
-/
import Derived.Test.YtholddbmnlnkkaaPlLawP
namespace Go.Proofs.Ytholddbmnlnkkaa
open Go

/-- The number of the first k places. -/
def nK (a : List Nat) : Nat → Nat
  | 0 => 0
  | k + 1 => nK a k + gn a k * 256 ^ k
/-- The number of a list. -/
def nV (a : List Nat) : Nat := nK a a.length
/-- The first k places of a number. -/
def dig (v k : Nat) : List Nat := (List.range k).map fun i => v / 256 ^ i % 256
theorem dig_length (v k : Nat) : (dig v k).length = k := by simp [dig]
theorem dig_get (v k i : Nat) (h : i < k) : gn (dig v k) i = v / 256 ^ i % 256 := by simp [dig, gn, h]
theorem dig_succ (v k : Nat) : dig v (k + 1) = dig v k ++ [v / 256 ^ k % 256] := by
  unfold dig
  rw [List.range_succ, List.map_append]
  rfl
theorem dig_lt (v k i : Nat) : gn (dig v k) i < 256 := by
  by_cases h : i < k
  · rw [dig_get _ _ _ h]
    exact Nat.mod_lt _ (by decide)
  · rw [gn_out (by rw [dig_length]; omega)]
    decide
theorem nK_dig (v n : Nat) : ∀ k, k ≤ n → nK (dig v n) k = v % 256 ^ k
  | 0, _ => by rw [Nat.pow_zero, Nat.mod_one]; rfl
  | k + 1, h => by
    rw [show nK (dig v n) (k + 1) = nK (dig v n) k + gn (dig v n) k * 256 ^ k from rfl, nK_dig v n k (by omega), dig_get _ _ _ (by omega), Nat.mod_pow_succ, Nat.mul_comm]
theorem nV_dig (v n : Nat) (h : v < 256 ^ n) : nV (dig v n) = v := by
  unfold nV
  rw [dig_length, nK_dig v n n (Nat.le_refl _), Nat.mod_eq_of_lt h]
theorem nK_congr {a b : List Nat} (k : Nat) (h : ∀ i, i < k → gn a i = gn b i) : nK a k = nK b k := by
  induction k with
  | zero => rfl
  | succ k ih =>
    rw [show nK a (k + 1) = nK a k + gn a k * 256 ^ k from rfl, ih (fun i hi => h i (by omega)), h k (by omega)]
    rfl
theorem dig_stable (v m : Nat) {j k : Nat} (h : j < k) : (v + m * 256 ^ k) / 256 ^ j % 256 = v / 256 ^ j % 256 := byte_stable v m h
theorem dig_more (v m k : Nat) : dig (v + m * 256 ^ k) k = dig v k := by
  unfold dig
  apply List.map_congr_left
  intro i hi
  exact dig_stable v m (List.mem_range.1 hi)
/-- What is carried when k places are done. -/
theorem more_step (a : List Nat) (k : Nat) : nK a (k + 1) / 256 ^ k = nK a k / 256 ^ k + gn a k := by
  rw [show nK a (k + 1) = nK a k + gn a k * 256 ^ k from rfl, Nat.mul_comm (gn a k), Nat.add_mul_div_left _ _ (Nat.pow_pos (by decide))]
theorem dig_step (a : List Nat) (k : Nat) : dig (nK a (k + 1)) (k + 1) = dig (nK a k) k ++ [(nK a k / 256 ^ k + gn a k) % 256] := by
  rw [dig_succ, more_step, show nK a (k + 1) = nK a k + gn a k * 256 ^ k from rfl, dig_more]
theorem more_next (a : List Nat) (k : Nat) : nK a (k + 1) / 256 ^ (k + 1) = (nK a k / 256 ^ k + gn a k) / 256 := by
  rw [Nat.pow_succ, ← Nat.div_div_eq_div_mul, more_step]
theorem more_le (a : List Nat) (C : Nat) (hC : ∀ i, gn a i ≤ C) : ∀ k, nK a k / 256 ^ k ≤ C
  | 0 => by show 0 / 1 ≤ C; omega
  | k + 1 => by
    rw [more_next]
    have h1 := more_le a C hC k
    have h2 := hC k
    omega
/-- The cells of numbers. -/
def vn (xs : List Nat) : List Value := xs.map fun (x : Nat) => Value.int .u64 (x : Int)
theorem vn_length (xs : List Nat) : (vn xs).length = xs.length := by simp [vn]
theorem vn_append (a b : List Nat) : vn (a ++ b) = vn a ++ vn b := by simp [vn]
theorem vn_get (xs : List Nat) (j : Nat) (h : j < xs.length) : (vn xs)[j]? = some (.int .u64 (gn xs j : Int)) := by simp [vn, gn, h]
end Go.Proofs.Ytholddbmnlnkkaa
