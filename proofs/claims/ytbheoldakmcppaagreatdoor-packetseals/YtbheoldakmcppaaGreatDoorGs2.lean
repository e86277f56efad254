/-
  Out of ChaPlain, ChaXorP, ChaVec.
-/
import Derived.Test.YtbheoldakmcppaaGreatDoorGs4
import Derived.Test.YtbheoldakmcppaaGreatDoorGs1

/-! ChaCha20 on lists of words and bytes: no program in sight. -/
namespace Go.Proofs.YtbheoldakmcppaaGreatDoor
open Go

/-- Turned left by n bits. -/
def rl (x : Wd) (n : Nat) : Wd := oo (sl x n) (sr x (32 - n))
/-- Four words, a quarter round further. -/
def qa1 (a b : Wd) : Wd := ad a b
def qd1 (a b d : Wd) : Wd := rl (xr d (qa1 a b)) 16
def qc1 (a b c d : Wd) : Wd := ad c (qd1 a b d)
def qb1 (a b c d : Wd) : Wd := rl (xr b (qc1 a b c d)) 12
def qA (a b c d : Wd) : Wd := ad (qa1 a b) (qb1 a b c d)
def qD (a b c d : Wd) : Wd := rl (xr (qd1 a b d) (qA a b c d)) 8
def qC (a b c d : Wd) : Wd := ad (qc1 a b c d) (qD a b c d)
def qB (a b c d : Wd) : Wd := rl (xr (qb1 a b c d) (qC a b c d)) 7

/-- The words of a state that a quarter round takes. -/
def QN : List Nat := [0, 4, 8, 12, 1, 5, 9, 13, 2, 6, 10, 14, 3, 7, 11, 15, 0, 5, 10, 15, 1, 6, 11, 12, 2, 7, 8, 13, 3, 4, 9, 14]
def qi (k j : Nat) : Nat := gn QN (4 * k + j)
def quart (s : List Wd) (a b c d : Nat) : List Wd :=
  (((s.set a (qA (gw s a) (gw s b) (gw s c) (gw s d))).set b (qB (gw s a) (gw s b) (gw s c) (gw s d))).set c (qC (gw s a) (gw s b) (gw s c) (gw s d))).set d (qD (gw s a) (gw s b) (gw s c) (gw s d))
theorem quart_length (s : List Wd) (a b c d : Nat) : (quart s a b c d).length = s.length := by simp [quart]
/-- The first k quarter rounds of two rounds. -/
def twoTo (s : List Wd) (k : Nat) : List Wd :=
  if k = 0 then s else quart (twoTo s (k - 1)) (qi (k - 1) 0) (qi (k - 1) 1) (qi (k - 1) 2) (qi (k - 1) 3)
termination_by k
theorem twoTo_zero (s : List Wd) : twoTo s 0 = s := by rw [twoTo]; simp
theorem twoTo_succ (s : List Wd) (k : Nat) : twoTo s (k + 1) = quart (twoTo s k) (qi k 0) (qi k 1) (qi k 2) (qi k 3) := by rw [twoTo]; simp
theorem twoTo_length (s : List Wd) : ∀ k, (twoTo s k).length = s.length
  | 0 => by rw [twoTo_zero]
  | k + 1 => by rw [twoTo_succ, quart_length, twoTo_length s k]
def twoL (s : List Wd) : List Wd := twoTo s 8
/-- So often two rounds further. -/
def roundsL (s : List Wd) (k : Nat) : List Wd := if k = 0 then s else twoL (roundsL s (k - 1))
termination_by k
theorem roundsL_zero (s : List Wd) : roundsL s 0 = s := by rw [roundsL]; simp
theorem roundsL_succ (s : List Wd) (k : Nat) : roundsL s (k + 1) = twoL (roundsL s k) := by rw [roundsL]; simp
theorem roundsL_length (s : List Wd) : ∀ k, (roundsL s k).length = s.length
  | 0 => by rw [roundsL_zero]
  | k + 1 => by rw [roundsL_succ, twoL, twoTo_length, roundsL_length s k]

/-- Four bytes as a word, the lowest first. -/
def wordLE (b : List By) (q : Nat) : Wd := oo (oo (oo (ex (gb b (4 * q))) (sl (ex (gb b (4 * q + 1))) 8)) (sl (ex (gb b (4 * q + 2))) 16)) (sl (ex (gb b (4 * q + 3))) 24)
/-- As much of it as has come. -/
def wordTo (b : List By) (q : Nat) : Nat → Wd
  | 0 => 0
  | j + 1 => oo (wordTo b q j) (sl (ex (gb b (4 * q + j))) (8 * j))
theorem oo_zero (x : Wd) : oo 0 x = x := by unfold oo; simp
theorem wordTo_all (b : List By) (q : Nat) : wordTo b q 4 = wordLE b q := by
  simp only [wordTo, wordLE, oo_zero, Nat.mul_zero, Nat.add_zero]
  have : sl (ex (gb b (4 * q))) 0 = ex (gb b (4 * q)) := by unfold sl; simp
  rw [this]

def BEG : List Wd := [1634760805, 857760878, 2036477234, 1797285236]
/-- The state of a key, a count and a nonce. -/
def stateL (key : List By) (count : Wd) (nonce : List By) : List Wd :=
  BEG ++ (List.range 8).map (wordLE key) ++ [count] ++ (List.range 3).map (wordLE nonce)
theorem stateL_length (key : List By) (count : Wd) (nonce : List By) : (stateL key count nonce).length = 16 := by simp [stateL, BEG]
theorem stateL_beg (key : List By) (count : Wd) (nonce : List By) (i : Nat) (h : i < 4) : (stateL key count nonce)[i]? = some (gw BEG i) := by
  match i, h with
  | 0, _ => rfl
  | 1, _ => rfl
  | 2, _ => rfl
  | 3, _ => rfl
theorem stateL_key (key : List By) (count : Wd) (nonce : List By) (i : Nat) (h : i < 8) : (stateL key count nonce)[4 + i]? = some (wordLE key i) := by
  match i, h with
  | 0, _ => rfl
  | 1, _ => rfl
  | 2, _ => rfl
  | 3, _ => rfl
  | 4, _ => rfl
  | 5, _ => rfl
  | 6, _ => rfl
  | 7, _ => rfl
theorem stateL_count (key : List By) (count : Wd) (nonce : List By) : (stateL key count nonce)[12]? = some count := rfl
theorem stateL_nonce (key : List By) (count : Wd) (nonce : List By) (i : Nat) (h : i < 3) : (stateL key count nonce)[13 + i]? = some (wordLE nonce i) := by
  match i, h with
  | 0, _ => rfl
  | 1, _ => rfl
  | 2, _ => rfl

/-- Each word, and what it was, added. -/
def sumL16 (s t : List Wd) : List Wd := (List.range 16).map fun i => ad (gw s i) (gw t i)
theorem sumL16_length (s t : List Wd) : (sumL16 s t).length = 16 := by simp [sumL16]
theorem sumL16_get (s t : List Wd) (i : Nat) (h : i < 16) : (sumL16 s t)[i]? = some (ad (gw s i) (gw t i)) := by simp [sumL16, h]
theorem sumL16_gw (s t : List Wd) (i : Nat) (h : i < 16) : gw (sumL16 s t) i = ad (gw s i) (gw t i) := by unfold gw; rw [sumL16_get s t i h]; rfl
/-- Two lists of one length: of the one what has come, of the other the rest. -/
def mixed {α : Type} (s t : List α) (k : Nat) : List α := s.take k ++ t.drop k
theorem mixed_zero {α : Type} (s t : List α) : mixed s t 0 = t := by simp [mixed]
theorem mixed_all {α : Type} (s t : List α) (n : Nat) (hs : s.length = n) (ht : t.length = n) : mixed s t n = s := by
  simp [mixed, List.take_of_length_le (show s.length ≤ n by omega), List.drop_of_length_le (show t.length ≤ n by omega)]
theorem mixed_length {α : Type} (s t : List α) (k n : Nat) (hs : s.length = n) (ht : t.length = n) (hk : k ≤ n) : (mixed s t k).length = n := by simp [mixed]; omega
theorem mixed_at {α : Type} (s t : List α) (k n : Nat) (hs : s.length = n) (hk : k < n) : (mixed s t k)[k]? = t[k]? := by
  unfold mixed
  rw [List.getElem?_append_right (by simp; omega)]
  simp [show min k s.length = k by omega]
theorem mixed_gw (s t : List Wd) (k n : Nat) (hs : s.length = n) (hk : k < n) : gw (mixed s t k) k = gw t k := by unfold gw; rw [mixed_at s t k n hs hk]
theorem mixed_set {α : Type} (s t : List α) (k n : Nat) (hs : s.length = n) (ht : t.length = n) (hk : k < n) (x : α) (hx : s[k]? = some x) : (mixed s t k).set k x = mixed s t (k + 1) := by
  have hx' : s[k]'(by omega) = x := by
    rw [List.getElem?_eq_getElem (by omega)] at hx
    exact Option.some.inj hx
  unfold mixed
  rw [List.set_append_right k x (by simp; omega), List.take_succ_eq_append_getElem (by omega), hx', List.drop_eq_getElem_cons (show k < t.length by omega)]
  simp only [List.length_take, show min k s.length = k by omega, Nat.sub_self, List.set_cons_zero, List.append_assoc, List.singleton_append]

/-- The bytes of a word, the lowest first; those of sixteen words. -/
def loOf (x : Wd) (j : Nat) : By := (sr x (8 * j)).setWidth 8
theorem v8_loOf (x : Wd) (j : Nat) : u (sr x (8 * j)) % 256 = v8 (loOf x j) := by
  unfold u v8 loOf
  rw [BitVec.toNat_setWidth]
  omega
def bytesL (s : List Wd) : List By := (List.range 64).map fun i => loOf (gw s (i / 4)) (i % 4)
theorem bytesL_length (s : List Wd) : (bytesL s).length = 64 := by simp [bytesL]
theorem bytesL_get (s : List Wd) (i : Nat) (h : i < 64) : (bytesL s)[i]? = some (loOf (gw s (i / 4)) (i % 4)) := by simp [bytesL, h]

/-- The block. -/
def blockL (key : List By) (count : Wd) (nonce : List By) : List By :=
  bytesL (sumL16 (roundsL (stateL key count nonce) 10) (stateL key count nonce))
theorem blockL_length (key : List By) (count : Wd) (nonce : List By) : (blockL key count nonce).length = 64 := bytesL_length _
end Go.Proofs.YtbheoldakmcppaaGreatDoor

/-! Bytes against the stream, on lists: no program in sight. -/
namespace Go.Proofs.YtbheoldakmcppaaGreatDoor
open Go

def xb (x y : By) : By := x ^^^ y
theorem v8_nat (x : By) : (v8 x).toNat = x.toNat := by unfold v8; omega
theorem bxb (x y : By) : bits .xor .u8 (v8 x) (v8 y) = v8 (xb x y) := by
  rw [u8_xor _ _ (v8_nn x) (by have := v8_le x; omega) (v8_nn y) (by have := v8_le y; omega), v8_nat, v8_nat]
  unfold v8 xb
  rw [BitVec.toNat_xor]
/-- A count that is so many more. -/
def cnt (count : Wd) (i : Nat) : Wd := ad count (BitVec.ofNat 32 i)
theorem u_ofNat (i : Nat) (h : i < 4294967296) : u (BitVec.ofNat 32 i) = (i : Int) := by
  unfold u
  rw [BitVec.toNat_ofNat]
  omega
theorem u_cnt (count : Wd) (i : Nat) (h : i < 4294967296) : (u count + (i : Int)) % 4294967296 = u (cnt count i) := by
  rw [← u_ofNat i h, wadd]
  rfl
theorem cnt_zero (count : Wd) : cnt count 0 = count := by
  unfold cnt ad
  simp
/-- The stream's byte at a place; so many of them. -/
def sby (key : List By) (count : Wd) (nonce : List By) (p : Nat) : By := gb (blockL key (cnt count (p / 64)) nonce) (p % 64)
def sbTo (key : List By) (count : Wd) (nonce : List By) (N : Nat) : List By := (List.range N).map (sby key count nonce)
theorem sbTo_length (key : List By) (count : Wd) (nonce : List By) (N : Nat) : (sbTo key count nonce N).length = N := by simp [sbTo]
theorem sbTo_succ (key : List By) (count : Wd) (nonce : List By) (N : Nat) : sbTo key count nonce (N + 1) = sbTo key count nonce N ++ [sby key count nonce N] := by
  unfold sbTo
  rw [List.range_succ, List.map_append, List.map_singleton]
theorem sbTo_get (key : List By) (count : Wd) (nonce : List By) (N p : Nat) (h : p < N) : gb (sbTo key count nonce N) p = sby key count nonce p := by
  unfold gb sbTo
  simp [h]
/-- Bytes against bytes; so many of them. -/
def zipX (b s : List By) : List By := (List.range s.length).map fun p => xb (gb b p) (gb s p)
theorem zipX_length (b s : List By) : (zipX b s).length = s.length := by simp [zipX]
theorem zipX_snoc (b s : List By) (x : By) : zipX b (s ++ [x]) = zipX b s ++ [xb (gb b s.length) x] := by
  unfold zipX
  rw [List.length_append, List.length_singleton, List.range_succ, List.map_append, List.map_singleton]
  congr 1
  · apply List.map_congr_left
    intro p hp
    have hp' := List.mem_range.1 hp
    unfold gb
    rw [List.getElem?_append_left hp']
  · unfold gb
    simp
theorem zipX_gb (b s : List By) (p : Nat) (h : p < s.length) : gb (zipX b s) p = xb (gb b p) (gb s p) := by
  unfold zipX
  show gb (List.map _ _) p = _
  unfold gb
  simp [h]
def xorL (key : List By) (count : Wd) (nonce : List By) (b : List By) : List By := zipX b (sbTo key count nonce b.length)
theorem xorL_length (key : List By) (count : Wd) (nonce : List By) (b : List By) : (xorL key count nonce b).length = b.length := by unfold xorL; rw [zipX_length, sbTo_length]
theorem xorL_gb (key : List By) (count : Wd) (nonce : List By) (b : List By) (p : Nat) (h : p < b.length) : gb (xorL key count nonce b) p = xb (gb b p) (sby key count nonce p) := by
  unfold xorL
  rw [zipX_gb _ _ _ (by rw [sbTo_length]; exact h), sbTo_get _ _ _ _ _ h]
theorem gb_ext {a b : List By} (hl : a.length = b.length) (h : ∀ p, p < a.length → gb a p = gb b p) : a = b := by
  apply List.ext_getElem hl
  intro p h1 h2
  have := h p h1
  unfold gb at this
  rw [List.getElem?_eq_getElem h1, List.getElem?_eq_getElem h2] at this
  exact this
end Go.Proofs.YtbheoldakmcppaaGreatDoor

/-! Bytes that the document fixes: no program in sight. -/
namespace Go.Proofs.YtbheoldakmcppaaGreatDoor
open Go

def twoS (s : List Wd) : Nat → List Wd
  | 0 => s
  | k + 1 => quart (twoS s k) (qi k 0) (qi k 1) (qi k 2) (qi k 3)
theorem twoS_eq (s : List Wd) : ∀ k, twoTo s k = twoS s k
  | 0 => twoTo_zero s
  | k + 1 => by rw [twoTo_succ, twoS, twoS_eq s k]
def roundsS (s : List Wd) : Nat → List Wd
  | 0 => s
  | k + 1 => twoS (roundsS s k) 8
theorem roundsS_eq (s : List Wd) : ∀ k, roundsL s k = roundsS s k
  | 0 => roundsL_zero s
  | k + 1 => by rw [roundsL_succ, twoL, twoS_eq, roundsS, roundsS_eq s k]
def endS (key : List By) (count : Wd) (nonce : List By) : List Wd := sumL16 (roundsS (stateL key count nonce) 10) (stateL key count nonce)
theorem blockL_S (key : List By) (count : Wd) (nonce : List By) : blockL key count nonce = bytesL (endS key count nonce) := by
  unfold blockL endS
  rw [roundsS_eq]
end Go.Proofs.YtbheoldakmcppaaGreatDoor
