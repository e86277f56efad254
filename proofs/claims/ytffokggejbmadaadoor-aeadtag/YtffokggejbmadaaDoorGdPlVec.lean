/-
  Tags that the document fixes, and sums of sixteen bytes: no program in sight.
-/
import Derived.Test.YtffokggejbmadaaDoorGd5
namespace Go.Proofs.YtffokggejbmadaaDoor
open Go

def aKey : List By := [133, 214, 190, 120, 87, 85, 109, 51, 127, 68, 82, 254, 66, 213, 6, 168, 1, 3, 128, 138, 251, 13, 178, 253, 74, 191, 246, 175, 65, 73, 245, 27]
def crypt : List By := [67, 114, 121, 112, 116, 111, 103, 114, 97, 112, 104, 105, 99, 32, 70, 111, 114, 117, 109, 32, 82, 101, 115, 101, 97, 114, 99, 104, 32, 71, 114, 111, 117, 112]
def aTag : List By := [168, 6, 29, 193, 48, 81, 54, 198, 194, 43, 139, 175, 12, 1, 39, 169]
def key2 : List By := 2 :: List.replicate 31 0
def key1 : List By := 1 :: List.replicate 31 0
def tag3 : List By := 3 :: List.replicate 15 0
def tag5 : List By := 5 :: List.replicate 15 0
def fiveB : List By := ((List.replicate 16 255 ++ [240]) ++ List.replicate 15 255) ++ ([17] ++ List.replicate 15 0)
theorem vec_a : tagL aKey crypt = aTag := by decide +kernel
theorem vec_3 : tagL key2 (List.replicate 16 255) = tag3 := by decide +kernel
theorem vec_5 : tagL key1 fiveB = tag5 := by decide +kernel
theorem row_aKey : (#[.int .u8 133, .int .u8 214, .int .u8 190, .int .u8 120, .int .u8 87, .int .u8 85, .int .u8 109, .int .u8 51, .int .u8 127, .int .u8 68, .int .u8 82, .int .u8 254, .int .u8 66, .int .u8 213, .int .u8 6, .int .u8 168, .int .u8 1, .int .u8 3, .int .u8 128, .int .u8 138, .int .u8 251, .int .u8 13, .int .u8 178, .int .u8 253, .int .u8 74, .int .u8 191, .int .u8 246, .int .u8 175, .int .u8 65, .int .u8 73, .int .u8 245, .int .u8 27] : Array Value) = bs aKey := by kernel_rfl
theorem row_crypt : (#[.int .u8 67, .int .u8 114, .int .u8 121, .int .u8 112, .int .u8 116, .int .u8 111, .int .u8 103, .int .u8 114, .int .u8 97, .int .u8 112, .int .u8 104, .int .u8 105, .int .u8 99, .int .u8 32, .int .u8 70, .int .u8 111, .int .u8 114, .int .u8 117, .int .u8 109, .int .u8 32, .int .u8 82, .int .u8 101, .int .u8 115, .int .u8 101, .int .u8 97, .int .u8 114, .int .u8 99, .int .u8 104, .int .u8 32, .int .u8 71, .int .u8 114, .int .u8 111, .int .u8 117, .int .u8 112] : Array Value) = bs crypt := by kernel_rfl

/-! ### Sums of sixteen bytes -/
theorem leK_by16 (x : Nat) (k : Nat) (hk : k ≤ 16) : leK (by16 x) k = x % 256 ^ k := by
  induction k with
  | zero => rw [Nat.pow_zero, Nat.mod_one]; rfl
  | succ k ih =>
    have e : gb (by16 x) k = byteAt x k := by simp [by16, gb, show k < 16 by omega]
    rw [show leK (by16 x) (k + 1) = leK (by16 x) k + (gb (by16 x) k).toNat * 256 ^ k from rfl, ih (by omega), e, Nat.mod_pow_succ]
    unfold byteAt
    rw [BitVec.toNat_ofNat, Nat.mul_comm]
theorem leK_div (b : List By) (j : Nat) : ∀ k, j < k → leK b k / 256 ^ j % 256 = (gb b j).toNat
  | 0, h => by omega
  | k + 1, h => by
    rw [show leK b (k + 1) = leK b k + (gb b k).toNat * 256 ^ k from rfl]
    by_cases hj : j = k
    · subst hj
      rw [Nat.mul_comm, Nat.add_mul_div_left _ _ (Nat.pow_pos (by decide)), Nat.div_eq_of_lt (leK_lt b j), Nat.zero_add]
      exact Nat.mod_eq_of_lt (gb b j).isLt
    · rw [byte_stable _ _ (show j < k by omega)]
      exact leK_div b j k (by omega)
theorem by16_leK (b : List By) (h : b.length = 16) : by16 (leK b 16) = b := by
  refine (by16_of h (fun i hi => ?_)).symm
  unfold byteAt
  apply BitVec.eq_of_toNat_eq
  rw [BitVec.toNat_ofNat]
  exact (leK_div b i 16 hi).symm
/-- Two keys with the same r. -/
theorem acc_nil (r : Nat) : accW r (partsTo [] (np 0)) = 0 := rfl
theorem tag_nil (key half : List By) (hh : half.length = 16) (hs : sN key = leK half 16) : tagL key [] = half := by
  unfold tagL tagN
  rw [show ([] : List By).length = 0 from rfl, acc_nil, Nat.zero_add, by16_mod (u := sN key % 340282366920938463463374607431768211456) (v := sN key) (Nat.mod_mod _ _), hs]
  exact by16_leK half hh
theorem tag_adds (key bare half b : List By) (hr : rN bare = rN key) (h0 : sN bare = 0) (hs : sN key = leK half 16) : by16 (sumK (tagL bare b) half 16) = tagL key b := by
  unfold sumK
  rw [show tagL bare b = by16 (tagN bare b) from rfl, leK_by16 _ 16 (Nat.le_refl _), ← hs]
  unfold tagL tagN
  rw [hr, h0, Nat.add_zero]
  apply by16_mod
  rw [show (256 : Nat) ^ 16 = 340282366920938463463374607431768211456 by decide, Nat.mod_mod, Nat.mod_mod, Nat.mod_add_mod]
theorem tag_bare (bare : List By) (h0 : sN bare = 0) : tagL bare [] = List.replicate 16 0 :=
  tag_nil bare (List.replicate 16 0) rfl (by rw [h0]; decide +kernel)
end Go.Proofs.YtffokggejbmadaaDoor
