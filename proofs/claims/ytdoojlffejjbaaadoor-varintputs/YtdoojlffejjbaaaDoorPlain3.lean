/-
  Plain arithmetic: the number that bytes of 7 bits tell. No program in sight.
-/
import Derived.Test.YtdoojlffejjbaaaDoorPlain2
namespace Go.Proofs.YtdoojlffejjbaaaDoor
open Go

/-- The number that bytes of 7 bits tell, the lowest bits first. -/
def val7 : List Int → Int
  | [] => 0
  | c :: r => c % 128 + 128 * val7 r

/-- How many bytes of 128 or above stand ahead. -/
def cnt : List Int → Nat
  | [] => 0
  | c :: r => if 128 ≤ c then cnt r + 1 else 0

theorem cnt_le : ∀ l : List Int, cnt l ≤ l.length
  | [] => Nat.le_refl _
  | c :: r => by
    have := cnt_le r
    unfold cnt
    split <;> simp <;> omega

theorem cnt_ahead : ∀ (l : List Int) (j : Nat), j < cnt l → 128 ≤ l[j]?.getD 0
  | [], j, h => by simp [cnt] at h
  | c :: r, j, h => by
    unfold cnt at h
    split at h
    · rename_i hc
      cases j with
      | zero => simpa using hc
      | succ j => have := cnt_ahead r j (by omega); simpa using this
    · omega

theorem cnt_last : ∀ l : List Int, cnt l < l.length → l[cnt l]?.getD 0 < 128
  | [], h => by simp [cnt] at h
  | c :: r, h => by
    by_cases hc : 128 ≤ c
    · have e : cnt (c :: r) = cnt r + 1 := by rw [cnt, if_pos hc]
      rw [e] at h ⊢
      have := cnt_last r (by simpa using h)
      simpa using this
    · have e : cnt (c :: r) = 0 := by rw [cnt, if_neg hc]
      rw [e]
      simp
      omega

/-- Where the first byte below 128 stands. -/
theorem cnt_eq (l : List Int) (k : Nat) (h : k < l.length) (ha : ∀ j, j < k → 128 ≤ l[j]?.getD 0) (hk : l[k]?.getD 0 < 128) : cnt l = k := by
  rcases Nat.lt_trichotomy (cnt l) k with h1 | h1 | h1
  · have h2 := cnt_last l (by omega)
    have h3 := ha _ h1
    omega
  · exact h1
  · have h2 := cnt_ahead l k h1
    omega

theorem cnt_ge (l : List Int) (k : Nat) (h : k ≤ l.length) (ha : ∀ j, j < k → 128 ≤ l[j]?.getD 0) : k ≤ cnt l := by
  rcases Nat.lt_or_ge (cnt l) k with h1 | h1
  · have h2 := cnt_last l (by omega)
    have h3 := ha _ h1
    omega
  · exact h1

theorem val7_snoc (c : Int) : ∀ l : List Int, val7 (l ++ [c]) = val7 l + c % 128 * 2 ^ (7 * l.length)
  | [] => by simp [val7]
  | a :: r => by
    have ih := val7_snoc c r
    have e : (2 : Int) ^ (7 * (a :: r).length) = 128 * 2 ^ (7 * r.length) := by
      rw [List.length_cons, show 7 * (r.length + 1) = 7 * r.length + 7 by omega, Int.pow_add, Int.mul_comm]
      rfl
    simp only [List.cons_append, val7, ih, e, Int.mul_add, ← Int.mul_assoc]
    rw [Int.mul_comm 128 (c % 128), Int.add_assoc]

theorem val7_take (zs : List Int) (m : Nat) (h : m < zs.length) : val7 (zs.take (m + 1)) = val7 (zs.take m) + zs[m]?.getD 0 % 128 * 2 ^ (7 * m) := by
  rw [take_snoc zs m h, val7_snoc]
  rw [show (zs.take m).length = m by simp; omega]

theorem val7_bound : ∀ l : List Int, 0 ≤ val7 l ∧ val7 l < 2 ^ (7 * l.length)
  | [] => by simp [val7]
  | a :: r => by
    have ih := val7_bound r
    have e : (2 : Int) ^ (7 * (a :: r).length) = 128 * 2 ^ (7 * r.length) := by
      rw [List.length_cons, show 7 * (r.length + 1) = 7 * r.length + 7 by omega, Int.pow_add, Int.mul_comm]
      rfl
    rw [e]
    simp only [val7]
    omega

theorem pow_le (a b : Nat) (h : a ≤ b) : (2 : Int) ^ a ≤ 2 ^ b := by
  have hn := Nat.pow_le_pow_right (n := 2) (by decide) h
  have hz := Int.ofNat_le.2 hn
  rw [Int.natCast_pow, Int.natCast_pow] at hz
  exact hz

/-- Seven bits more, by moving and joining. -/
theorem join7 (n p : Int) (m : Nat) (hm : m ≤ 8) (h0 : 0 ≤ n) (h1 : n < 2 ^ (7 * m)) (hp0 : 0 ≤ p) (hp : p < 128) : bits .or .u64 n (IntKind.u64.wrap (p * 2 ^ (7 * m))) = n + p * 2 ^ (7 * m) := by
  have hpow : (2 : Int) ^ (7 * m) ≤ 2 ^ 56 := pow_le _ _ (by omega)
  have e56 : (2 : Int) ^ 56 = 72057594037927936 := by decide
  have hpos : (0 : Int) < 2 ^ (7 * m) := Int.pow_pos (by decide)
  have hmul0 : 0 ≤ p * 2 ^ (7 * m) := Int.mul_nonneg hp0 (by omega)
  have hmul : p * 2 ^ (7 * m) ≤ 127 * 2 ^ (7 * m) := Int.mul_le_mul_of_nonneg_right (by omega) (by omega)
  have hw : IntKind.u64.wrap (p * 2 ^ (7 * m)) = p * 2 ^ (7 * m) := by
    rw [IntKind.wrap_u64]; omega
  rw [hw, u64_or _ _ (by omega) (by omega) (by omega) (by omega), Nat.or_comm]
  have hc : (2 : Int) ^ (7 * m) = ((2 ^ (7 * m) : Nat) : Int) := by rw [Int.natCast_pow]; rfl
  have e1 : (p * 2 ^ (7 * m)).toNat = p.toNat * 2 ^ (7 * m) := by
    rw [hc, ← Int.toNat_of_nonneg hp0, ← Int.natCast_mul, Int.toNat_natCast, Int.toNat_natCast]
  have h2 : n.toNat < 2 ^ (7 * m) := by omega
  rw [e1, nat_join (7 * m) _ _ (by rw [Nat.mul_mod_left]) h2]
  have e3 : ((p.toNat * 2 ^ (7 * m) : Nat) : Int) = p * 2 ^ (7 * m) := by
    rw [Int.natCast_mul, Int.toNat_of_nonneg hp0, ← hc]
  rw [Int.natCast_add, e3, Int.toNat_of_nonneg h0]
  omega
end Go.Proofs.YtdoojlffejjbaaaDoor
