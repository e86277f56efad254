/-
  Bytes against the stream, on lists: no program in sight.
-/
import Derived.Test.YtcdmnbmniiblgaaGreatDoorChaPlain
import Derived.Test.YtcdmnbmniiblgaaGreatDoorShaChPlain
namespace Go.Proofs.YtcdmnbmniiblgaaGreatDoor
open Go

def xb (x y : By) : By := x ^^^ y
theorem v8_nat (x : By) : (v8 x).toNat = x.toNat := by unfold v8; omega
theorem bxb (x y : By) : bits .xor .u8 (v8 x) (v8 y) = v8 (xb x y) := by
  rw [u8_xor _ _ (v8_nn x) (by have := v8_le x; omega) (v8_nn y) (by have := v8_le y; omega), v8_nat, v8_nat]
  unfold v8 xb
  rw [BitVec.toNat_xor]
theorem xb_xb (x y : By) : xb (xb x y) y = x := by
  unfold xb
  rw [BitVec.xor_assoc, BitVec.xor_self, BitVec.xor_zero]
/-- A count that is so many more. -/
def cnt (count : Wd) (i : Nat) : Wd := ad count (BitVec.ofNat 32 i)
theorem u_ofNat (i : Nat) (h : i < 4294967296) : u (BitVec.ofNat 32 i) = (i : Int) := by
  unfold u
  rw [BitVec.toNat_ofNat]
  omega
theorem u_cnt (count : Wd) (i : Nat) (h : i < 4294967296) : (u count + (i : Int)) % 4294967296 = u (cnt count i) := by
  rw [← u_ofNat i h, wadd]
  rfl
theorem cnt_cnt (count : Wd) (i j : Nat) : cnt (cnt count i) j = cnt count (i + j) := by
  unfold cnt ad
  rw [BitVec.add_assoc, BitVec.ofNat_add_ofNat]
theorem cnt_zero (count : Wd) : cnt count 0 = count := by
  unfold cnt ad
  simp
/-- The stream's byte at a place; so many of them. -/
def sby (key : List By) (count : Wd) (nonce : List By) (p : Nat) : By := gb (blockL key (cnt count (p / 64)) nonce) (p % 64)
def sbTo (key : List By) (count : Wd) (nonce : List By) (N : Nat) : List By := (List.range N).map (sby key count nonce)
theorem sbTo_length (key : List By) (count : Wd) (nonce : List By) (N : Nat) : (sbTo key count nonce N).length = N := by simp [sbTo]
theorem sbTo_succ (key : List By) (count : Wd) (nonce : List By) (N : Nat) : sbTo key count nonce (N + 1) = sbTo key count nonce N ++ [sby key count nonce N] := by
  unfold sbTo
  rw [List.range_succ, List.map_append, List.map_singleton]
theorem sbTo_get (key : List By) (count : Wd) (nonce : List By) (N p : Nat) (h : p < N) : gb (sbTo key count nonce N) p = sby key count nonce p := by
  unfold gb sbTo
  simp [h]
/-- Bytes against bytes; so many of them. -/
def zipX (b s : List By) : List By := (List.range s.length).map fun p => xb (gb b p) (gb s p)
theorem zipX_length (b s : List By) : (zipX b s).length = s.length := by simp [zipX]
theorem zipX_snoc (b s : List By) (x : By) : zipX b (s ++ [x]) = zipX b s ++ [xb (gb b s.length) x] := by
  unfold zipX
  rw [List.length_append, List.length_singleton, List.range_succ, List.map_append, List.map_singleton]
  congr 1
  · apply List.map_congr_left
    intro p hp
    have hp' := List.mem_range.1 hp
    unfold gb
    rw [List.getElem?_append_left hp']
  · unfold gb
    simp
theorem zipX_gb (b s : List By) (p : Nat) (h : p < s.length) : gb (zipX b s) p = xb (gb b p) (gb s p) := by
  unfold zipX
  show gb (List.map _ _) p = _
  unfold gb
  simp [h]
def xorL (key : List By) (count : Wd) (nonce : List By) (b : List By) : List By := zipX b (sbTo key count nonce b.length)
theorem xorL_length (key : List By) (count : Wd) (nonce : List By) (b : List By) : (xorL key count nonce b).length = b.length := by unfold xorL; rw [zipX_length, sbTo_length]
theorem xorL_gb (key : List By) (count : Wd) (nonce : List By) (b : List By) (p : Nat) (h : p < b.length) : gb (xorL key count nonce b) p = xb (gb b p) (sby key count nonce p) := by
  unfold xorL
  rw [zipX_gb _ _ _ (by rw [sbTo_length]; exact h), sbTo_get _ _ _ _ _ h]
theorem gb_ext {a b : List By} (hl : a.length = b.length) (h : ∀ p, p < a.length → gb a p = gb b p) : a = b := by
  apply List.ext_getElem hl
  intro p h1 h2
  have := h p h1
  unfold gb at this
  rw [List.getElem?_eq_getElem h1, List.getElem?_eq_getElem h2] at this
  exact this
theorem xorL_twice (key : List By) (count : Wd) (nonce : List By) (b : List By) : xorL key count nonce (xorL key count nonce b) = b := by
  apply gb_ext (by rw [xorL_length, xorL_length])
  intro p hp
  rw [xorL_length, xorL_length] at hp
  rw [xorL_gb _ _ _ _ _ (by rw [xorL_length]; exact hp), xorL_gb _ _ _ _ _ hp, xb_xb]
end Go.Proofs.YtcdmnbmniiblgaaGreatDoor
