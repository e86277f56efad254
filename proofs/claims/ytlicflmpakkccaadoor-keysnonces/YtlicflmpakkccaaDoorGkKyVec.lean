/-
  Keys of a connection, on lists, and the bytes that the document fixes: no program in sight.
-/
import Derived.Test.YtlicflmpakkccaaDoorGkHkInfo
import Derived.Test.YtlicflmpakkccaaDoorGk3
namespace Go.Proofs.YtlicflmpakkccaaDoor
open Go

/-! ### Texts in hexadecimal -/
def digB (c : By) : By := if 97 ≤ v8 c then c - 97 + 10 else c - 48
def pairB (b : List By) (k : Nat) : By := digB (gb b (2 * k)) * 16#8 + digB (gb b (2 * k + 1))
def unhexTo (b : List By) (k : Nat) : List By := (List.range k).map (pairB b)
theorem unhexTo_length (b : List By) (k : Nat) : (unhexTo b k).length = k := by simp [unhexTo]
theorem unhexTo_succ (b : List By) (k : Nat) : unhexTo b (k + 1) = unhexTo b k ++ [pairB b k] := by unfold unhexTo; rw [List.range_succ]; simp
def unhexL (b : List By) : List By := unhexTo b (b.length / 2)

/-! ### Keys -/
def keyT : ByteArray := { data := #[113, 117, 105, 99, 32, 107, 101, 121] }
def ivT : ByteArray := { data := #[113, 117, 105, 99, 32, 105, 118] }
def hpT : ByteArray := { data := #[113, 117, 105, 99, 32, 104, 112] }
def kuT : ByteArray := { data := #[113, 117, 105, 99, 32, 107, 117] }
def cliT : ByteArray := { data := #[99, 108, 105, 101, 110, 116] }
def serT : ByteArray := { data := #[115, 101, 114, 118, 101, 114] }
/-- So many bytes of a secret by a name. -/
def lab (k : List By) (s : ByteArray) (n : Nat) : List By := expandL (keyL k) (infoL (bOf s) [] n) n
theorem lab_length (k : List By) (s : ByteArray) (n : Nat) : (lab k s n).length = n := expandL_length _ _ _
def dirT (client : Bool) : ByteArray := if client then cliT else serT
def secretL (shared said : List By) (client : Bool) : List By := lab (macK (keyL (sumL said)) shared) (dirT client) 32

/-! ### Nonces -/
def nb8 (n i : Nat) : By := BitVec.ofNat 8 (n / 256 ^ i)
def nonceTo (iv : List By) (n t : Nat) : List By := (List.range 12).map fun j => if 12 ≤ j + t then gb iv j ^^^ nb8 n (11 - j) else gb iv j
theorem nonceTo_length (iv : List By) (n t : Nat) : (nonceTo iv n t).length = 12 := by simp [nonceTo]
theorem nonceTo_get (iv : List By) (n t j : Nat) (h : j < 12) : gb (nonceTo iv n t) j = if 12 ≤ j + t then gb iv j ^^^ nb8 n (11 - j) else gb iv j := by
  simp [nonceTo, gb, h]
theorem nonceTo_zero (iv : List By) (n : Nat) (h : iv.length = 12) : nonceTo iv n 0 = iv := by
  apply List.ext_getElem
  · rw [nonceTo_length, h]
  · intro j h1 h2
    have hj : j < 12 := by rw [h] at h2; exact h2
    simp only [nonceTo, List.getElem_map, List.getElem_range, Nat.add_zero]
    rw [if_neg (by omega)]
    simp [gb, h2]
theorem nonceTo_set (iv : List By) (n t : Nat) (h : t < 12) : (nonceTo iv n t).set (11 - t) (gb iv (11 - t) ^^^ nb8 n t) = nonceTo iv n (t + 1) := by
  apply List.ext_getElem
  · rw [List.length_set, nonceTo_length, nonceTo_length]
  · intro j h1 h2
    have hj : j < 12 := by rw [nonceTo_length] at h2; exact h2
    rw [List.getElem_set]
    simp only [nonceTo, List.getElem_map, List.getElem_range]
    by_cases e : 11 - t = j
    · rw [if_pos e, if_pos (by omega), ← e, show 11 - (11 - t) = t by omega]
    · rw [if_neg e]
      by_cases e2 : 12 ≤ j + t
      · rw [if_pos e2, if_pos (by omega)]
      · rw [if_neg e2, if_neg (by omega)]
def nonceL (iv : List By) (n : Nat) : List By := nonceTo iv n 8
theorem nonceL_length (iv : List By) (n : Nat) : (nonceL iv n).length = 12 := nonceTo_length _ _ _
theorem nonceL_head (iv : List By) (n m : Nat) : (nonceL iv n).take 4 = (nonceL iv m).take 4 := by
  apply List.ext_getElem
  · rw [List.length_take, List.length_take, nonceL_length, nonceL_length]
  · intro j h1 h2
    have hj : j < 4 := by rw [List.length_take] at h1; omega
    rw [List.getElem_take, List.getElem_take]
    simp only [nonceL, nonceTo, List.getElem_map, List.getElem_range]
    rw [if_neg (by omega), if_neg (by omega)]
theorem nb8_eq {n m i : Nat} (h : nb8 n i = nb8 m i) : n / 256 ^ i % 256 = m / 256 ^ i % 256 := by
  have := congrArg BitVec.toNat h
  simpa [nb8] using this
theorem nonceL_inj (iv : List By) (n m : Nat) (hn : n < 2 ^ 64) (hm : m < 2 ^ 64) (h : nonceL iv n = nonceL iv m) : n = m := by
  have key : ∀ i, i < 8 → n / 256 ^ i % 256 = m / 256 ^ i % 256 := by
    intro i hi
    have h1 := congrArg (fun l => gb l (11 - i)) h
    simp only [nonceL] at h1
    rw [nonceTo_get _ _ _ _ (by omega), nonceTo_get _ _ _ _ (by omega), if_pos (by omega), if_pos (by omega), show 11 - (11 - i) = i by omega] at h1
    have h2 : nb8 n i = nb8 m i := by
      have := congrArg (fun x => gb iv (11 - i) ^^^ x) h1
      simpa [← BitVec.xor_assoc] using this
    exact nb8_eq h2
  have k0 := key 0 (by omega)
  have k1 := key 1 (by omega)
  have k2 := key 2 (by omega)
  have k3 := key 3 (by omega)
  have k4 := key 4 (by omega)
  have k5 := key 5 (by omega)
  have k6 := key 6 (by omega)
  have k7 := key 7 (by omega)
  simp only [Nat.reducePow, Nat.div_one] at k0 k1 k2 k3 k4 k5 k6 k7 hn hm
  have d : ∀ x : Nat, x / 256 = x / 256 ∧ x / 65536 = x / 256 / 256 ∧ x / 16777216 = x / 256 / 256 / 256 ∧ x / 4294967296 = x / 256 / 256 / 256 / 256 ∧ x / 1099511627776 = x / 256 / 256 / 256 / 256 / 256 ∧ x / 281474976710656 = x / 256 / 256 / 256 / 256 / 256 / 256 ∧ x / 72057594037927936 = x / 256 / 256 / 256 / 256 / 256 / 256 / 256 := by
    intro x
    simp only [Nat.div_div_eq_div_mul, Nat.reduceMul, and_self]
  obtain ⟨_, a2, a3, a4, a5, a6, a7⟩ := d n
  obtain ⟨_, b2, b3, b4, b5, b6, b7⟩ := d m
  rw [a2, b2] at k2
  rw [a3, b3] at k3
  rw [a4, b4] at k4
  rw [a5, b5] at k5
  rw [a6, b6] at k6
  rw [a7, b7] at k7
  have t7n : n / 72057594037927936 < 256 := by omega
  have t7m : m / 72057594037927936 < 256 := by omega
  rw [a7] at t7n
  rw [b7] at t7m
  clear a2 a3 a4 a5 a6 a7 b2 b3 b4 b5 b6 b7 d key hn hm h
  omega

/-! ### Masks -/
def countL (s : List By) : Wd := wordLE s 0
def maskL (key sample : List By) : List By := (blockL key (countL sample) (sample.drop 4)).take 5

/-! ### The chapter's examples -/
def knownT : ByteArray := { data := #[57, 97, 99, 51, 49, 50, 97, 55, 102, 56, 55, 55, 52, 54, 56, 101, 98, 101, 54, 57, 52, 50, 50, 55, 52, 56, 97, 100, 48, 48, 97, 49, 53, 52, 52, 51, 102, 49, 56, 50, 48, 51, 97, 48, 55, 100, 54, 48, 54, 48, 102, 54, 56, 56, 102, 51, 48, 102, 50, 49, 54, 51, 50, 98] }
def sampT : ByteArray := { data := #[53, 101, 53, 99, 100, 53, 53, 99, 52, 49, 102, 54, 57, 48, 56, 48, 53, 55, 53, 100, 55, 57, 57, 57, 99, 50, 53, 97, 53, 98, 102, 98] }
def keyX : ByteArray := { data := #[99, 54, 100, 57, 56, 102, 102, 51, 52, 52, 49, 99, 51, 102, 101, 49, 98, 50, 49, 56, 50, 48, 57, 52, 102, 54, 57, 99, 97, 97, 50, 101, 100, 52, 98, 55, 49, 54, 98, 54, 53, 52, 56, 56, 57, 54, 48, 97, 55, 97, 57, 56, 52, 57, 55, 57, 102, 98, 50, 51, 101, 49, 99, 56] }
def ivX : ByteArray := { data := #[101, 48, 52, 53, 57, 98, 51, 52, 55, 52, 98, 100, 100, 48, 101, 52, 52, 97, 52, 49, 99, 49, 52, 52] }
def nonX : ByteArray := { data := #[101, 48, 52, 53, 57, 98, 51, 52, 55, 52, 98, 100, 100, 48, 101, 52, 54, 100, 52, 49, 55, 101, 98, 48] }
def maskX : ByteArray := { data := #[97, 101, 102, 101, 102, 101, 55, 100, 48, 51] }
def knownV : List By := [154, 195, 18, 167, 248, 119, 70, 142, 190, 105, 66, 39, 72, 173, 0, 161, 84, 67, 241, 130, 3, 160, 125, 96, 96, 246, 136, 243, 15, 33, 99, 43]
def sampV : List By := [94, 92, 213, 92, 65, 246, 144, 128, 87, 93, 121, 153, 194, 90, 91, 251]
def keyV12 : List By := [198, 217, 143, 243, 68, 28, 63, 225, 178, 24, 32, 148, 246, 156, 170, 46, 212, 183, 22, 182, 84, 136, 150, 10, 122, 152, 73, 121, 251, 35, 225, 200]
def ivV12 : List By := [224, 69, 155, 52, 116, 189, 208, 228, 74, 65, 193, 68]
def hpV12 : List By := [37, 162, 130, 185, 232, 47, 6, 242, 31, 72, 137, 23, 164, 252, 143, 27, 115, 87, 54, 133, 96, 133, 151, 208, 239, 203, 7, 107, 10, 183, 167, 164]
def nonV12 : List By := [224, 69, 155, 52, 116, 189, 208, 228, 109, 65, 126, 176]
def maskV12 : List By := [174, 254, 254, 125, 3]
theorem hex_known : unhexL (bOf knownT) = knownV := by decide +kernel
theorem hex_samp : unhexL (bOf sampT) = sampV := by decide +kernel
theorem hex_key : unhexL (bOf keyX) = keyV12 := by decide +kernel
theorem hex_iv : unhexL (bOf ivX) = ivV12 := by decide +kernel
theorem hex_non : unhexL (bOf nonX) = nonV12 := by decide +kernel
theorem hex_mask : unhexL (bOf maskX) = maskV12 := by decide +kernel
set_option maxRecDepth 100000 in
theorem vec_key12 : lab knownV keyT 32 = keyV12 := by decide +kernel
set_option maxRecDepth 100000 in
theorem vec_iv12 : lab knownV ivT 12 = ivV12 := by decide +kernel
set_option maxRecDepth 100000 in
theorem vec_hp12 : lab knownV hpT 32 = hpV12 := by decide +kernel
theorem vec_non12 : nonceL ivV12 654360564 = nonV12 := by decide +kernel
set_option maxRecDepth 100000 in
theorem vec_mask12 : maskL hpV12 sampV = maskV12 := by
  unfold maskL
  rw [blockL_S]
  decide +kernel
end Go.Proofs.YtlicflmpakkccaaDoor
