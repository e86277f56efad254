/-
  Words of 32 bits, and the numbers that memory holds of them: no program in sight.
-/
import Derived.Laws.BitsAllLaws
namespace Go.Proofs.Ytoajnhngcfjohaa
open Go

abbrev Wd := BitVec 32

/-- A word as the number that memory holds. -/
def u (x : Wd) : Int := (x.toNat : Int)
theorem u_nn (x : Wd) : 0 ≤ u x := by unfold u; omega
theorem u_le (x : Wd) : u x ≤ 4294967295 := by have := x.isLt; unfold u; omega
theorem u_inj {x y : Wd} (h : u x = u y) : x = y := by unfold u at h; apply BitVec.eq_of_toNat_eq; omega

/-- The word of a number. -/
def wd (z : Int) : Wd := BitVec.ofNat 32 z.toNat
theorem u_wd (z : Int) (h0 : 0 ≤ z) (h1 : z ≤ 4294967295) : u (wd z) = z := by
  unfold u wd
  rw [BitVec.toNat_ofNat]
  omega

def xr (a b : Wd) : Wd := a ^^^ b
def an (a b : Wd) : Wd := a &&& b
def oo (a b : Wd) : Wd := a ||| b
def nt (a : Wd) : Wd := ~~~a
def ad (a b : Wd) : Wd := a + b
def sb (a b : Wd) : Wd := a - b
def sr (x : Wd) (n : Nat) : Wd := x >>> n
def sl (x : Wd) (n : Nat) : Wd := x <<< n
/-- Turned right by n bits. -/
def rr (x : Wd) (n : Nat) : Wd := oo (sr x n) (sl x (32 - n))

theorem u_nat (x : Wd) : (u x).toNat = x.toNat := by unfold u; omega
theorem bx (a b : Wd) : bits .xor .u32 (u a) (u b) = u (xr a b) := by
  rw [u32_xor _ _ (u_nn a) (by have := u_le a; omega) (u_nn b) (by have := u_le b; omega), u_nat, u_nat]
  unfold u xr
  rw [BitVec.toNat_xor]
theorem ba (a b : Wd) : bits .and .u32 (u a) (u b) = u (an a b) := by
  rw [u32_and _ _ (u_nn a) (by have := u_le a; omega) (u_nn b) (by have := u_le b; omega), u_nat, u_nat]
  unfold u an
  rw [BitVec.toNat_and]
theorem bo (a b : Wd) : bits .or .u32 (u a) (u b) = u (oo a b) := by
  rw [u32_or _ _ (u_nn a) (by have := u_le a; omega) (u_nn b) (by have := u_le b; omega), u_nat, u_nat]
  unfold u oo
  rw [BitVec.toNat_or]
theorem wadd (a b : Wd) : (u a + u b) % 4294967296 = u (ad a b) := by
  unfold u ad
  rw [BitVec.toNat_add]
  omega
theorem wsub (a b : Wd) : (u a - u b) % 4294967296 = u (sb a b) := by
  have ha := a.isLt
  have hb := b.isLt
  unfold u sb
  rw [BitVec.toNat_sub]
  omega
theorem wnot (a : Wd) : 4294967295 - u a = u (nt a) := by
  have ha := a.isLt
  unfold u nt
  rw [BitVec.toNat_not]
  omega
theorem wsr (a : Wd) (n : Nat) : u a / 2 ^ n = u (sr a n) := by
  unfold u sr
  rw [BitVec.toNat_ushiftRight, Nat.shiftRight_eq_div_pow]
  simp
theorem wsl (a : Wd) (n : Nat) : (u a * 2 ^ n) % 4294967296 = u (sl a n) := by
  unfold u sl
  rw [BitVec.toNat_shiftLeft, Nat.shiftLeft_eq]
  simp

/-- Not, as the walk spells it. -/
theorem bnot (a : Wd) : bits .xor .u32 (if IntKind.u32.signed = true then -1 else IntKind.u32.max) (u a) = u (nt a) := by
  have e : (if IntKind.u32.signed = true then -1 else IntKind.u32.max) = u (BitVec.allOnes 32) := by decide +kernel
  rw [e, bx]
  unfold xr nt
  rw [BitVec.allOnes_xor]

/-- The low five bits of a number of bits that is turned left by its negative. -/
theorem and31 (n : Int) (h0 : 1 ≤ n) (h1 : n ≤ 31) : bits .and .u64 (IntKind.u64.wrap (-n)) 31 = 32 - n := by
  rw [IntKind.wrap_u64, u64_and _ _ (by omega) (by omega) (by omega) (by omega)]
  have e : (31 : Int).toNat = 2 ^ 5 - 1 := rfl
  rw [e, Nat.and_two_pow_sub_one_eq_mod]
  omega
theorem shl32 (x : Wd) (k : IntKind) (n : Int) (h0 : 0 ≤ n) (h1 : n ≤ 31) : Op.shift .shl .u32 (u x) k n = pure (.int .u32 (u (sl x n.toNat))) := by
  rw [← wsl, shift_shl_u32 _ _ _ h0 (by omega), IntKind.wrap_u32']
theorem shr32 (x : Wd) (k : IntKind) (n : Int) (h0 : 0 ≤ n) (h1 : n ≤ 31) : Op.shift .shr .u32 (u x) k n = pure (.int .u32 (u (sr x n.toNat))) := by
  rw [← wsr, shift_shr_u32 _ _ _ h0 (by omega)]
theorem rr_comm (x : Wd) (n : Nat) : oo (sl x (32 - n)) (sr x n) = rr x n := by
  unfold rr oo
  rw [BitVec.or_comm]
end Go.Proofs.Ytoajnhngcfjohaa
