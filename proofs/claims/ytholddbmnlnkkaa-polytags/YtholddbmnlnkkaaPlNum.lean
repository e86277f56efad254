/-
  Numbers of bytes: no program in sight.
-/
import Derived.Test.YtholddbmnlnkkaaPlProduct
namespace Go.Proofs.Ytholddbmnlnkkaa
open Go

/-- The number of the first k bytes. -/
def leK (b : List By) : Nat → Nat
  | 0 => 0
  | k + 1 => leK b k + (gb b k).toNat * 256 ^ k
/-- The number of bytes. -/
def leN (b : List By) : Nat := leK b b.length
theorem leK_lt (b : List By) (k : Nat) : leK b k < 256 ^ k := by
  induction k with
  | zero => simp [leK]
  | succ k ih =>
    have := (gb b k).isLt
    rw [show leK b (k + 1) = leK b k + (gb b k).toNat * 256 ^ k from rfl, Nat.pow_succ]
    have h : (gb b k).toNat * 256 ^ k ≤ 255 * 256 ^ k := Nat.mul_le_mul_right _ (by omega)
    omega
theorem pow8 (k : Nat) (hk : k ≤ 16) : 2 ^ (8 * k % 26) * 67108864 ^ (8 * k / 26) = 256 ^ k := by
  have h : ∀ k : Fin 17, 2 ^ (8 * k.1 % 26) * 67108864 ^ (8 * k.1 / 26) = 256 ^ k.1 := by decide +kernel
  exact h ⟨k, by omega⟩
theorem pow8_le (k : Nat) : 2 ^ (8 * k % 26) ≤ 2 ^ 24 := Nat.pow_le_pow_right (by omega) (by omega)
theorem num_step (zs : List Nat) (hl : zs.length = 5) (b : List By) (k : Nat) (hk : k ≤ 16) (h : V5 zs = leK b k) (v y : Nat) (hv : v = gn zs (8 * k / 26)) (hy : y = (gb b k).toNat * 2 ^ (8 * k % 26)) : V5 (zs.set (8 * k / 26) (v + y)) = leK b (k + 1) := by
  rw [hv, V5_add zs hl _ (by omega), h, show leK b (k + 1) = leK b k + (gb b k).toNat * 256 ^ k from rfl, ← pow8 k hk, hy, Nat.mul_assoc]
end Go.Proofs.Ytholddbmnlnkkaa
