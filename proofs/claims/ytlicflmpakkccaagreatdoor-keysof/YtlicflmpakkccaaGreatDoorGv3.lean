/-
  Out of ChaPlain, ChaXorP, ChaVec, KyVec.
-/
import Derived.Test.YtlicflmpakkccaaGreatDoorGv8
import Derived.Test.YtlicflmpakkccaaGreatDoorGv1
import Derived.Test.YtlicflmpakkccaaGreatDoorGv24

/-! ChaCha20 on lists of words and bytes: no program in sight. -/
namespace Go.Proofs.YtlicflmpakkccaaGreatDoor
open Go

/-- Turned left by n bits. -/
def rl (x : Wd) (n : Nat) : Wd := oo (sl x n) (sr x (32 - n))
/-- Four words, a quarter round further. -/
def qa1 (a b : Wd) : Wd := ad a b
def qd1 (a b d : Wd) : Wd := rl (xr d (qa1 a b)) 16
def qc1 (a b c d : Wd) : Wd := ad c (qd1 a b d)
def qb1 (a b c d : Wd) : Wd := rl (xr b (qc1 a b c d)) 12
def qA (a b c d : Wd) : Wd := ad (qa1 a b) (qb1 a b c d)
def qD (a b c d : Wd) : Wd := rl (xr (qd1 a b d) (qA a b c d)) 8
def qC (a b c d : Wd) : Wd := ad (qc1 a b c d) (qD a b c d)
def qB (a b c d : Wd) : Wd := rl (xr (qb1 a b c d) (qC a b c d)) 7

/-- The words of a state that a quarter round takes. -/
def QN : List Nat := [0, 4, 8, 12, 1, 5, 9, 13, 2, 6, 10, 14, 3, 7, 11, 15, 0, 5, 10, 15, 1, 6, 11, 12, 2, 7, 8, 13, 3, 4, 9, 14]
def qi (k j : Nat) : Nat := gn QN (4 * k + j)
def quart (s : List Wd) (a b c d : Nat) : List Wd :=
  (((s.set a (qA (gw s a) (gw s b) (gw s c) (gw s d))).set b (qB (gw s a) (gw s b) (gw s c) (gw s d))).set c (qC (gw s a) (gw s b) (gw s c) (gw s d))).set d (qD (gw s a) (gw s b) (gw s c) (gw s d))
theorem quart_length (s : List Wd) (a b c d : Nat) : (quart s a b c d).length = s.length := by simp [quart]
/-- The first k quarter rounds of two rounds. -/
def twoTo (s : List Wd) (k : Nat) : List Wd :=
  if k = 0 then s else quart (twoTo s (k - 1)) (qi (k - 1) 0) (qi (k - 1) 1) (qi (k - 1) 2) (qi (k - 1) 3)
termination_by k
theorem twoTo_zero (s : List Wd) : twoTo s 0 = s := by rw [twoTo]; simp
theorem twoTo_succ (s : List Wd) (k : Nat) : twoTo s (k + 1) = quart (twoTo s k) (qi k 0) (qi k 1) (qi k 2) (qi k 3) := by rw [twoTo]; simp
theorem twoTo_length (s : List Wd) : ∀ k, (twoTo s k).length = s.length
  | 0 => by rw [twoTo_zero]
  | k + 1 => by rw [twoTo_succ, quart_length, twoTo_length s k]
def twoL (s : List Wd) : List Wd := twoTo s 8
/-- So often two rounds further. -/
def roundsL (s : List Wd) (k : Nat) : List Wd := if k = 0 then s else twoL (roundsL s (k - 1))
termination_by k
theorem roundsL_zero (s : List Wd) : roundsL s 0 = s := by rw [roundsL]; simp
theorem roundsL_succ (s : List Wd) (k : Nat) : roundsL s (k + 1) = twoL (roundsL s k) := by rw [roundsL]; simp
theorem roundsL_length (s : List Wd) : ∀ k, (roundsL s k).length = s.length
  | 0 => by rw [roundsL_zero]
  | k + 1 => by rw [roundsL_succ, twoL, twoTo_length, roundsL_length s k]

/-- Four bytes as a word, the lowest first. -/
def wordLE (b : List By) (q : Nat) : Wd := oo (oo (oo (ex (gb b (4 * q))) (sl (ex (gb b (4 * q + 1))) 8)) (sl (ex (gb b (4 * q + 2))) 16)) (sl (ex (gb b (4 * q + 3))) 24)
/-- As much of it as has come. -/
def wordTo (b : List By) (q : Nat) : Nat → Wd
  | 0 => 0
  | j + 1 => oo (wordTo b q j) (sl (ex (gb b (4 * q + j))) (8 * j))
theorem oo_zero (x : Wd) : oo 0 x = x := by unfold oo; simp
theorem wordTo_all (b : List By) (q : Nat) : wordTo b q 4 = wordLE b q := by
  simp only [wordTo, wordLE, oo_zero, Nat.mul_zero, Nat.add_zero]
  have : sl (ex (gb b (4 * q))) 0 = ex (gb b (4 * q)) := by unfold sl; simp
  rw [this]

def BEG : List Wd := [1634760805, 857760878, 2036477234, 1797285236]
/-- The state of a key, a count and a nonce. -/
def stateL (key : List By) (count : Wd) (nonce : List By) : List Wd :=
  BEG ++ (List.range 8).map (wordLE key) ++ [count] ++ (List.range 3).map (wordLE nonce)
theorem stateL_length (key : List By) (count : Wd) (nonce : List By) : (stateL key count nonce).length = 16 := by simp [stateL, BEG]
theorem stateL_beg (key : List By) (count : Wd) (nonce : List By) (i : Nat) (h : i < 4) : (stateL key count nonce)[i]? = some (gw BEG i) := by
  match i, h with
  | 0, _ => rfl
  | 1, _ => rfl
  | 2, _ => rfl
  | 3, _ => rfl
theorem stateL_key (key : List By) (count : Wd) (nonce : List By) (i : Nat) (h : i < 8) : (stateL key count nonce)[4 + i]? = some (wordLE key i) := by
  match i, h with
  | 0, _ => rfl
  | 1, _ => rfl
  | 2, _ => rfl
  | 3, _ => rfl
  | 4, _ => rfl
  | 5, _ => rfl
  | 6, _ => rfl
  | 7, _ => rfl
theorem stateL_count (key : List By) (count : Wd) (nonce : List By) : (stateL key count nonce)[12]? = some count := rfl
theorem stateL_nonce (key : List By) (count : Wd) (nonce : List By) (i : Nat) (h : i < 3) : (stateL key count nonce)[13 + i]? = some (wordLE nonce i) := by
  match i, h with
  | 0, _ => rfl
  | 1, _ => rfl
  | 2, _ => rfl

/-- Each word, and what it was, added. -/
def sumL16 (s t : List Wd) : List Wd := (List.range 16).map fun i => ad (gw s i) (gw t i)
theorem sumL16_length (s t : List Wd) : (sumL16 s t).length = 16 := by simp [sumL16]
theorem sumL16_get (s t : List Wd) (i : Nat) (h : i < 16) : (sumL16 s t)[i]? = some (ad (gw s i) (gw t i)) := by simp [sumL16, h]
theorem sumL16_gw (s t : List Wd) (i : Nat) (h : i < 16) : gw (sumL16 s t) i = ad (gw s i) (gw t i) := by unfold gw; rw [sumL16_get s t i h]; rfl
/-- Two lists of one length: of the one what has come, of the other the rest. -/
def mixed {α : Type} (s t : List α) (k : Nat) : List α := s.take k ++ t.drop k
theorem mixed_zero {α : Type} (s t : List α) : mixed s t 0 = t := by simp [mixed]
theorem mixed_all {α : Type} (s t : List α) (n : Nat) (hs : s.length = n) (ht : t.length = n) : mixed s t n = s := by
  simp [mixed, List.take_of_length_le (show s.length ≤ n by omega), List.drop_of_length_le (show t.length ≤ n by omega)]
theorem mixed_length {α : Type} (s t : List α) (k n : Nat) (hs : s.length = n) (ht : t.length = n) (hk : k ≤ n) : (mixed s t k).length = n := by simp [mixed]; omega
theorem mixed_at {α : Type} (s t : List α) (k n : Nat) (hs : s.length = n) (hk : k < n) : (mixed s t k)[k]? = t[k]? := by
  unfold mixed
  rw [List.getElem?_append_right (by simp; omega)]
  simp [show min k s.length = k by omega]
theorem mixed_gw (s t : List Wd) (k n : Nat) (hs : s.length = n) (hk : k < n) : gw (mixed s t k) k = gw t k := by unfold gw; rw [mixed_at s t k n hs hk]
theorem mixed_set {α : Type} (s t : List α) (k n : Nat) (hs : s.length = n) (ht : t.length = n) (hk : k < n) (x : α) (hx : s[k]? = some x) : (mixed s t k).set k x = mixed s t (k + 1) := by
  have hx' : s[k]'(by omega) = x := by
    rw [List.getElem?_eq_getElem (by omega)] at hx
    exact Option.some.inj hx
  unfold mixed
  rw [List.set_append_right k x (by simp; omega), List.take_succ_eq_append_getElem (by omega), hx', List.drop_eq_getElem_cons (show k < t.length by omega)]
  simp only [List.length_take, show min k s.length = k by omega, Nat.sub_self, List.set_cons_zero, List.append_assoc, List.singleton_append]

/-- The bytes of a word, the lowest first; those of sixteen words. -/
def loOf (x : Wd) (j : Nat) : By := (sr x (8 * j)).setWidth 8
theorem v8_loOf (x : Wd) (j : Nat) : u (sr x (8 * j)) % 256 = v8 (loOf x j) := by
  unfold u v8 loOf
  rw [BitVec.toNat_setWidth]
  omega
def bytesL (s : List Wd) : List By := (List.range 64).map fun i => loOf (gw s (i / 4)) (i % 4)
theorem bytesL_length (s : List Wd) : (bytesL s).length = 64 := by simp [bytesL]
theorem bytesL_get (s : List Wd) (i : Nat) (h : i < 64) : (bytesL s)[i]? = some (loOf (gw s (i / 4)) (i % 4)) := by simp [bytesL, h]

/-- The block. -/
def blockL (key : List By) (count : Wd) (nonce : List By) : List By :=
  bytesL (sumL16 (roundsL (stateL key count nonce) 10) (stateL key count nonce))
theorem blockL_length (key : List By) (count : Wd) (nonce : List By) : (blockL key count nonce).length = 64 := bytesL_length _
end Go.Proofs.YtlicflmpakkccaaGreatDoor

/-! Bytes against the stream, on lists: no program in sight. -/
namespace Go.Proofs.YtlicflmpakkccaaGreatDoor
open Go

def xb (x y : By) : By := x ^^^ y
theorem v8_nat (x : By) : (v8 x).toNat = x.toNat := by unfold v8; omega
theorem bxb (x y : By) : bits .xor .u8 (v8 x) (v8 y) = v8 (xb x y) := by
  rw [u8_xor _ _ (v8_nn x) (by have := v8_le x; omega) (v8_nn y) (by have := v8_le y; omega), v8_nat, v8_nat]
  unfold v8 xb
  rw [BitVec.toNat_xor]
theorem xb_xb (x y : By) : xb (xb x y) y = x := by
  unfold xb
  rw [BitVec.xor_assoc, BitVec.xor_self, BitVec.xor_zero]
/-- A count that is so many more. -/
def cnt (count : Wd) (i : Nat) : Wd := ad count (BitVec.ofNat 32 i)
theorem u_ofNat (i : Nat) (h : i < 4294967296) : u (BitVec.ofNat 32 i) = (i : Int) := by
  unfold u
  rw [BitVec.toNat_ofNat]
  omega
theorem u_cnt (count : Wd) (i : Nat) (h : i < 4294967296) : (u count + (i : Int)) % 4294967296 = u (cnt count i) := by
  rw [← u_ofNat i h, wadd]
  rfl
theorem cnt_cnt (count : Wd) (i j : Nat) : cnt (cnt count i) j = cnt count (i + j) := by
  unfold cnt ad
  rw [BitVec.add_assoc, BitVec.ofNat_add_ofNat]
theorem cnt_zero (count : Wd) : cnt count 0 = count := by
  unfold cnt ad
  simp
/-- The stream's byte at a place; so many of them. -/
def sby (key : List By) (count : Wd) (nonce : List By) (p : Nat) : By := gb (blockL key (cnt count (p / 64)) nonce) (p % 64)
def sbTo (key : List By) (count : Wd) (nonce : List By) (N : Nat) : List By := (List.range N).map (sby key count nonce)
theorem sbTo_length (key : List By) (count : Wd) (nonce : List By) (N : Nat) : (sbTo key count nonce N).length = N := by simp [sbTo]
theorem sbTo_succ (key : List By) (count : Wd) (nonce : List By) (N : Nat) : sbTo key count nonce (N + 1) = sbTo key count nonce N ++ [sby key count nonce N] := by
  unfold sbTo
  rw [List.range_succ, List.map_append, List.map_singleton]
theorem sbTo_get (key : List By) (count : Wd) (nonce : List By) (N p : Nat) (h : p < N) : gb (sbTo key count nonce N) p = sby key count nonce p := by
  unfold gb sbTo
  simp [h]
/-- Bytes against bytes; so many of them. -/
def zipX (b s : List By) : List By := (List.range s.length).map fun p => xb (gb b p) (gb s p)
theorem zipX_length (b s : List By) : (zipX b s).length = s.length := by simp [zipX]
theorem zipX_snoc (b s : List By) (x : By) : zipX b (s ++ [x]) = zipX b s ++ [xb (gb b s.length) x] := by
  unfold zipX
  rw [List.length_append, List.length_singleton, List.range_succ, List.map_append, List.map_singleton]
  congr 1
  · apply List.map_congr_left
    intro p hp
    have hp' := List.mem_range.1 hp
    unfold gb
    rw [List.getElem?_append_left hp']
  · unfold gb
    simp
theorem zipX_gb (b s : List By) (p : Nat) (h : p < s.length) : gb (zipX b s) p = xb (gb b p) (gb s p) := by
  unfold zipX
  show gb (List.map _ _) p = _
  unfold gb
  simp [h]
def xorL (key : List By) (count : Wd) (nonce : List By) (b : List By) : List By := zipX b (sbTo key count nonce b.length)
theorem xorL_length (key : List By) (count : Wd) (nonce : List By) (b : List By) : (xorL key count nonce b).length = b.length := by unfold xorL; rw [zipX_length, sbTo_length]
theorem xorL_gb (key : List By) (count : Wd) (nonce : List By) (b : List By) (p : Nat) (h : p < b.length) : gb (xorL key count nonce b) p = xb (gb b p) (sby key count nonce p) := by
  unfold xorL
  rw [zipX_gb _ _ _ (by rw [sbTo_length]; exact h), sbTo_get _ _ _ _ _ h]
theorem gb_ext {a b : List By} (hl : a.length = b.length) (h : ∀ p, p < a.length → gb a p = gb b p) : a = b := by
  apply List.ext_getElem hl
  intro p h1 h2
  have := h p h1
  unfold gb at this
  rw [List.getElem?_eq_getElem h1, List.getElem?_eq_getElem h2] at this
  exact this
theorem xorL_twice (key : List By) (count : Wd) (nonce : List By) (b : List By) : xorL key count nonce (xorL key count nonce b) = b := by
  apply gb_ext (by rw [xorL_length, xorL_length])
  intro p hp
  rw [xorL_length, xorL_length] at hp
  rw [xorL_gb _ _ _ _ _ (by rw [xorL_length]; exact hp), xorL_gb _ _ _ _ _ hp, xb_xb]
end Go.Proofs.YtlicflmpakkccaaGreatDoor

/-! Bytes that the document fixes: no program in sight. -/
namespace Go.Proofs.YtlicflmpakkccaaGreatDoor
open Go

def twoS (s : List Wd) : Nat → List Wd
  | 0 => s
  | k + 1 => quart (twoS s k) (qi k 0) (qi k 1) (qi k 2) (qi k 3)
theorem twoS_eq (s : List Wd) : ∀ k, twoTo s k = twoS s k
  | 0 => twoTo_zero s
  | k + 1 => by rw [twoTo_succ, twoS, twoS_eq s k]
def roundsS (s : List Wd) : Nat → List Wd
  | 0 => s
  | k + 1 => twoS (roundsS s k) 8
theorem roundsS_eq (s : List Wd) : ∀ k, roundsL s k = roundsS s k
  | 0 => roundsL_zero s
  | k + 1 => by rw [roundsL_succ, twoL, twoS_eq, roundsS, roundsS_eq s k]
def kZ : List By := List.replicate 32 0
def nZ : List By := List.replicate 12 0
def kU : List By := (List.range 32).map fun i => BitVec.ofNat 8 i
def nU : List By := [0, 0, 0, 9, 0, 0, 0, 74, 0, 0, 0, 0]
def endS (key : List By) (count : Wd) (nonce : List By) : List Wd := sumL16 (roundsS (stateL key count nonce) 10) (stateL key count nonce)
theorem blockL_S (key : List By) (count : Wd) (nonce : List By) : blockL key count nonce = bytesL (endS key count nonce) := by
  unfold blockL endS
  rw [roundsS_eq]
set_option maxRecDepth 100000 in
theorem endZ : gw (endS kZ 0#32 nZ) 0 = 2917185654#32 ∧ gw (endS kZ 0#32 nZ) 1 = 2419978656#32 := by decide +kernel
set_option maxRecDepth 100000 in
theorem endU : gw (endS kU 1#32 nU) 15 = 1312575650#32 := by decide +kernel
end Go.Proofs.YtlicflmpakkccaaGreatDoor

/-! Keys of a connection, on lists, and the bytes that the document fixes: no program in sight. -/
namespace Go.Proofs.YtlicflmpakkccaaGreatDoor
open Go

/-! ### Texts in hexadecimal -/
def digB (c : By) : By := if 97 ≤ v8 c then c - 97 + 10 else c - 48
def pairB (b : List By) (k : Nat) : By := digB (gb b (2 * k)) * 16#8 + digB (gb b (2 * k + 1))
def unhexTo (b : List By) (k : Nat) : List By := (List.range k).map (pairB b)
theorem unhexTo_length (b : List By) (k : Nat) : (unhexTo b k).length = k := by simp [unhexTo]
theorem unhexTo_succ (b : List By) (k : Nat) : unhexTo b (k + 1) = unhexTo b k ++ [pairB b k] := by unfold unhexTo; rw [List.range_succ]; simp
def unhexL (b : List By) : List By := unhexTo b (b.length / 2)

/-! ### Keys -/
def keyT : ByteArray := { data := #[113, 117, 105, 99, 32, 107, 101, 121] }
def ivT : ByteArray := { data := #[113, 117, 105, 99, 32, 105, 118] }
def hpT : ByteArray := { data := #[113, 117, 105, 99, 32, 104, 112] }
def kuT : ByteArray := { data := #[113, 117, 105, 99, 32, 107, 117] }
def cliT : ByteArray := { data := #[99, 108, 105, 101, 110, 116] }
def serT : ByteArray := { data := #[115, 101, 114, 118, 101, 114] }
/-- So many bytes of a secret by a name. -/
def lab (k : List By) (s : ByteArray) (n : Nat) : List By := expandL (keyL k) (infoL (bOf s) [] n) n
theorem lab_length (k : List By) (s : ByteArray) (n : Nat) : (lab k s n).length = n := expandL_length _ _ _
def dirT (client : Bool) : ByteArray := if client then cliT else serT
def secretL (shared said : List By) (client : Bool) : List By := lab (macK (keyL (sumL said)) shared) (dirT client) 32

/-! ### Nonces -/
def nb8 (n i : Nat) : By := BitVec.ofNat 8 (n / 256 ^ i)
def nonceTo (iv : List By) (n t : Nat) : List By := (List.range 12).map fun j => if 12 ≤ j + t then gb iv j ^^^ nb8 n (11 - j) else gb iv j
theorem nonceTo_length (iv : List By) (n t : Nat) : (nonceTo iv n t).length = 12 := by simp [nonceTo]
theorem nonceTo_get (iv : List By) (n t j : Nat) (h : j < 12) : gb (nonceTo iv n t) j = if 12 ≤ j + t then gb iv j ^^^ nb8 n (11 - j) else gb iv j := by
  simp [nonceTo, gb, h]
theorem nonceTo_zero (iv : List By) (n : Nat) (h : iv.length = 12) : nonceTo iv n 0 = iv := by
  apply List.ext_getElem
  · rw [nonceTo_length, h]
  · intro j h1 h2
    have hj : j < 12 := by rw [h] at h2; exact h2
    simp only [nonceTo, List.getElem_map, List.getElem_range, Nat.add_zero]
    rw [if_neg (by omega)]
    simp [gb, h2]
theorem nonceTo_set (iv : List By) (n t : Nat) (h : t < 12) : (nonceTo iv n t).set (11 - t) (gb iv (11 - t) ^^^ nb8 n t) = nonceTo iv n (t + 1) := by
  apply List.ext_getElem
  · rw [List.length_set, nonceTo_length, nonceTo_length]
  · intro j h1 h2
    have hj : j < 12 := by rw [nonceTo_length] at h2; exact h2
    rw [List.getElem_set]
    simp only [nonceTo, List.getElem_map, List.getElem_range]
    by_cases e : 11 - t = j
    · rw [if_pos e, if_pos (by omega), ← e, show 11 - (11 - t) = t by omega]
    · rw [if_neg e]
      by_cases e2 : 12 ≤ j + t
      · rw [if_pos e2, if_pos (by omega)]
      · rw [if_neg e2, if_neg (by omega)]
def nonceL (iv : List By) (n : Nat) : List By := nonceTo iv n 8
theorem nonceL_length (iv : List By) (n : Nat) : (nonceL iv n).length = 12 := nonceTo_length _ _ _
theorem nonceL_head (iv : List By) (n m : Nat) : (nonceL iv n).take 4 = (nonceL iv m).take 4 := by
  apply List.ext_getElem
  · rw [List.length_take, List.length_take, nonceL_length, nonceL_length]
  · intro j h1 h2
    have hj : j < 4 := by rw [List.length_take] at h1; omega
    rw [List.getElem_take, List.getElem_take]
    simp only [nonceL, nonceTo, List.getElem_map, List.getElem_range]
    rw [if_neg (by omega), if_neg (by omega)]
theorem nb8_eq {n m i : Nat} (h : nb8 n i = nb8 m i) : n / 256 ^ i % 256 = m / 256 ^ i % 256 := by
  have := congrArg BitVec.toNat h
  simpa [nb8] using this
theorem nonceL_inj (iv : List By) (n m : Nat) (hn : n < 2 ^ 64) (hm : m < 2 ^ 64) (h : nonceL iv n = nonceL iv m) : n = m := by
  have key : ∀ i, i < 8 → n / 256 ^ i % 256 = m / 256 ^ i % 256 := by
    intro i hi
    have h1 := congrArg (fun l => gb l (11 - i)) h
    simp only [nonceL] at h1
    rw [nonceTo_get _ _ _ _ (by omega), nonceTo_get _ _ _ _ (by omega), if_pos (by omega), if_pos (by omega), show 11 - (11 - i) = i by omega] at h1
    have h2 : nb8 n i = nb8 m i := by
      have := congrArg (fun x => gb iv (11 - i) ^^^ x) h1
      simpa [← BitVec.xor_assoc] using this
    exact nb8_eq h2
  have k0 := key 0 (by omega)
  have k1 := key 1 (by omega)
  have k2 := key 2 (by omega)
  have k3 := key 3 (by omega)
  have k4 := key 4 (by omega)
  have k5 := key 5 (by omega)
  have k6 := key 6 (by omega)
  have k7 := key 7 (by omega)
  simp only [Nat.reducePow, Nat.div_one] at k0 k1 k2 k3 k4 k5 k6 k7 hn hm
  have d : ∀ x : Nat, x / 256 = x / 256 ∧ x / 65536 = x / 256 / 256 ∧ x / 16777216 = x / 256 / 256 / 256 ∧ x / 4294967296 = x / 256 / 256 / 256 / 256 ∧ x / 1099511627776 = x / 256 / 256 / 256 / 256 / 256 ∧ x / 281474976710656 = x / 256 / 256 / 256 / 256 / 256 / 256 ∧ x / 72057594037927936 = x / 256 / 256 / 256 / 256 / 256 / 256 / 256 := by
    intro x
    simp only [Nat.div_div_eq_div_mul, Nat.reduceMul, and_self]
  obtain ⟨_, a2, a3, a4, a5, a6, a7⟩ := d n
  obtain ⟨_, b2, b3, b4, b5, b6, b7⟩ := d m
  rw [a2, b2] at k2
  rw [a3, b3] at k3
  rw [a4, b4] at k4
  rw [a5, b5] at k5
  rw [a6, b6] at k6
  rw [a7, b7] at k7
  have t7n : n / 72057594037927936 < 256 := by omega
  have t7m : m / 72057594037927936 < 256 := by omega
  rw [a7] at t7n
  rw [b7] at t7m
  clear a2 a3 a4 a5 a6 a7 b2 b3 b4 b5 b6 b7 d key hn hm h
  omega

/-! ### Masks -/
def countL (s : List By) : Wd := wordLE s 0
def maskL (key sample : List By) : List By := (blockL key (countL sample) (sample.drop 4)).take 5

/-! ### The chapter's examples -/
def knownT : ByteArray := { data := #[57, 97, 99, 51, 49, 50, 97, 55, 102, 56, 55, 55, 52, 54, 56, 101, 98, 101, 54, 57, 52, 50, 50, 55, 52, 56, 97, 100, 48, 48, 97, 49, 53, 52, 52, 51, 102, 49, 56, 50, 48, 51, 97, 48, 55, 100, 54, 48, 54, 48, 102, 54, 56, 56, 102, 51, 48, 102, 50, 49, 54, 51, 50, 98] }
def sampT : ByteArray := { data := #[53, 101, 53, 99, 100, 53, 53, 99, 52, 49, 102, 54, 57, 48, 56, 48, 53, 55, 53, 100, 55, 57, 57, 57, 99, 50, 53, 97, 53, 98, 102, 98] }
def keyX : ByteArray := { data := #[99, 54, 100, 57, 56, 102, 102, 51, 52, 52, 49, 99, 51, 102, 101, 49, 98, 50, 49, 56, 50, 48, 57, 52, 102, 54, 57, 99, 97, 97, 50, 101, 100, 52, 98, 55, 49, 54, 98, 54, 53, 52, 56, 56, 57, 54, 48, 97, 55, 97, 57, 56, 52, 57, 55, 57, 102, 98, 50, 51, 101, 49, 99, 56] }
def ivX : ByteArray := { data := #[101, 48, 52, 53, 57, 98, 51, 52, 55, 52, 98, 100, 100, 48, 101, 52, 52, 97, 52, 49, 99, 49, 52, 52] }
def nonX : ByteArray := { data := #[101, 48, 52, 53, 57, 98, 51, 52, 55, 52, 98, 100, 100, 48, 101, 52, 54, 100, 52, 49, 55, 101, 98, 48] }
def maskX : ByteArray := { data := #[97, 101, 102, 101, 102, 101, 55, 100, 48, 51] }
def knownV : List By := [154, 195, 18, 167, 248, 119, 70, 142, 190, 105, 66, 39, 72, 173, 0, 161, 84, 67, 241, 130, 3, 160, 125, 96, 96, 246, 136, 243, 15, 33, 99, 43]
def sampV : List By := [94, 92, 213, 92, 65, 246, 144, 128, 87, 93, 121, 153, 194, 90, 91, 251]
def keyV12 : List By := [198, 217, 143, 243, 68, 28, 63, 225, 178, 24, 32, 148, 246, 156, 170, 46, 212, 183, 22, 182, 84, 136, 150, 10, 122, 152, 73, 121, 251, 35, 225, 200]
def ivV12 : List By := [224, 69, 155, 52, 116, 189, 208, 228, 74, 65, 193, 68]
def hpV12 : List By := [37, 162, 130, 185, 232, 47, 6, 242, 31, 72, 137, 23, 164, 252, 143, 27, 115, 87, 54, 133, 96, 133, 151, 208, 239, 203, 7, 107, 10, 183, 167, 164]
def nonV12 : List By := [224, 69, 155, 52, 116, 189, 208, 228, 109, 65, 126, 176]
def maskV12 : List By := [174, 254, 254, 125, 3]
theorem hex_known : unhexL (bOf knownT) = knownV := by decide +kernel
theorem hex_samp : unhexL (bOf sampT) = sampV := by decide +kernel
theorem hex_key : unhexL (bOf keyX) = keyV12 := by decide +kernel
theorem hex_iv : unhexL (bOf ivX) = ivV12 := by decide +kernel
theorem hex_non : unhexL (bOf nonX) = nonV12 := by decide +kernel
theorem hex_mask : unhexL (bOf maskX) = maskV12 := by decide +kernel
set_option maxRecDepth 100000 in
theorem vec_key12 : lab knownV keyT 32 = keyV12 := by decide +kernel
set_option maxRecDepth 100000 in
theorem vec_iv12 : lab knownV ivT 12 = ivV12 := by decide +kernel
set_option maxRecDepth 100000 in
theorem vec_hp12 : lab knownV hpT 32 = hpV12 := by decide +kernel
theorem vec_non12 : nonceL ivV12 654360564 = nonV12 := by decide +kernel
set_option maxRecDepth 100000 in
theorem vec_mask12 : maskL hpV12 sampV = maskV12 := by
  unfold maskL
  rw [blockL_S]
  decide +kernel
end Go.Proofs.YtlicflmpakkccaaGreatDoor
