/-
  ChaCha20 on lists of words and bytes: no program in sight.
-/
import Derived.Test.YtcdmnbmniiblgaaGreatDoorShaRefPlain
import Derived.Test.YtcdmnbmniiblgaaGreatDoorShaEq
namespace Go.Proofs.YtcdmnbmniiblgaaGreatDoor
open Go

/-- Turned left by n bits. -/
def rl (x : Wd) (n : Nat) : Wd := oo (sl x n) (sr x (32 - n))
/-- Four words, a quarter round further. -/
def qa1 (a b : Wd) : Wd := ad a b
def qd1 (a b d : Wd) : Wd := rl (xr d (qa1 a b)) 16
def qc1 (a b c d : Wd) : Wd := ad c (qd1 a b d)
def qb1 (a b c d : Wd) : Wd := rl (xr b (qc1 a b c d)) 12
def qA (a b c d : Wd) : Wd := ad (qa1 a b) (qb1 a b c d)
def qD (a b c d : Wd) : Wd := rl (xr (qd1 a b d) (qA a b c d)) 8
def qC (a b c d : Wd) : Wd := ad (qc1 a b c d) (qD a b c d)
def qB (a b c d : Wd) : Wd := rl (xr (qb1 a b c d) (qC a b c d)) 7

/-- The words of a state that a quarter round takes. -/
def QN : List Nat := [0, 4, 8, 12, 1, 5, 9, 13, 2, 6, 10, 14, 3, 7, 11, 15, 0, 5, 10, 15, 1, 6, 11, 12, 2, 7, 8, 13, 3, 4, 9, 14]
def qi (k j : Nat) : Nat := gn QN (4 * k + j)
def quart (s : List Wd) (a b c d : Nat) : List Wd :=
  (((s.set a (qA (gw s a) (gw s b) (gw s c) (gw s d))).set b (qB (gw s a) (gw s b) (gw s c) (gw s d))).set c (qC (gw s a) (gw s b) (gw s c) (gw s d))).set d (qD (gw s a) (gw s b) (gw s c) (gw s d))
theorem quart_length (s : List Wd) (a b c d : Nat) : (quart s a b c d).length = s.length := by simp [quart]
/-- The first k quarter rounds of two rounds. -/
def twoTo (s : List Wd) (k : Nat) : List Wd :=
  if k = 0 then s else quart (twoTo s (k - 1)) (qi (k - 1) 0) (qi (k - 1) 1) (qi (k - 1) 2) (qi (k - 1) 3)
termination_by k
theorem twoTo_zero (s : List Wd) : twoTo s 0 = s := by rw [twoTo]; simp
theorem twoTo_succ (s : List Wd) (k : Nat) : twoTo s (k + 1) = quart (twoTo s k) (qi k 0) (qi k 1) (qi k 2) (qi k 3) := by rw [twoTo]; simp
theorem twoTo_length (s : List Wd) : ∀ k, (twoTo s k).length = s.length
  | 0 => by rw [twoTo_zero]
  | k + 1 => by rw [twoTo_succ, quart_length, twoTo_length s k]
def twoL (s : List Wd) : List Wd := twoTo s 8
/-- So often two rounds further. -/
def roundsL (s : List Wd) (k : Nat) : List Wd := if k = 0 then s else twoL (roundsL s (k - 1))
termination_by k
theorem roundsL_zero (s : List Wd) : roundsL s 0 = s := by rw [roundsL]; simp
theorem roundsL_succ (s : List Wd) (k : Nat) : roundsL s (k + 1) = twoL (roundsL s k) := by rw [roundsL]; simp
theorem roundsL_length (s : List Wd) : ∀ k, (roundsL s k).length = s.length
  | 0 => by rw [roundsL_zero]
  | k + 1 => by rw [roundsL_succ, twoL, twoTo_length, roundsL_length s k]

/-- Four bytes as a word, the lowest first. -/
def wordLE (b : List By) (q : Nat) : Wd := oo (oo (oo (ex (gb b (4 * q))) (sl (ex (gb b (4 * q + 1))) 8)) (sl (ex (gb b (4 * q + 2))) 16)) (sl (ex (gb b (4 * q + 3))) 24)
/-- As much of it as has come. -/
def wordTo (b : List By) (q : Nat) : Nat → Wd
  | 0 => 0
  | j + 1 => oo (wordTo b q j) (sl (ex (gb b (4 * q + j))) (8 * j))
theorem oo_zero (x : Wd) : oo 0 x = x := by unfold oo; simp
theorem wordTo_all (b : List By) (q : Nat) : wordTo b q 4 = wordLE b q := by
  simp only [wordTo, wordLE, oo_zero, Nat.mul_zero, Nat.add_zero]
  have : sl (ex (gb b (4 * q))) 0 = ex (gb b (4 * q)) := by unfold sl; simp
  rw [this]

def BEG : List Wd := [1634760805, 857760878, 2036477234, 1797285236]
/-- The state of a key, a count and a nonce. -/
def stateL (key : List By) (count : Wd) (nonce : List By) : List Wd :=
  BEG ++ (List.range 8).map (wordLE key) ++ [count] ++ (List.range 3).map (wordLE nonce)
theorem stateL_length (key : List By) (count : Wd) (nonce : List By) : (stateL key count nonce).length = 16 := by simp [stateL, BEG]
theorem stateL_beg (key : List By) (count : Wd) (nonce : List By) (i : Nat) (h : i < 4) : (stateL key count nonce)[i]? = some (gw BEG i) := by
  match i, h with
  | 0, _ => rfl
  | 1, _ => rfl
  | 2, _ => rfl
  | 3, _ => rfl
theorem stateL_key (key : List By) (count : Wd) (nonce : List By) (i : Nat) (h : i < 8) : (stateL key count nonce)[4 + i]? = some (wordLE key i) := by
  match i, h with
  | 0, _ => rfl
  | 1, _ => rfl
  | 2, _ => rfl
  | 3, _ => rfl
  | 4, _ => rfl
  | 5, _ => rfl
  | 6, _ => rfl
  | 7, _ => rfl
theorem stateL_count (key : List By) (count : Wd) (nonce : List By) : (stateL key count nonce)[12]? = some count := rfl
theorem stateL_nonce (key : List By) (count : Wd) (nonce : List By) (i : Nat) (h : i < 3) : (stateL key count nonce)[13 + i]? = some (wordLE nonce i) := by
  match i, h with
  | 0, _ => rfl
  | 1, _ => rfl
  | 2, _ => rfl

/-- Each word, and what it was, added. -/
def sumL16 (s t : List Wd) : List Wd := (List.range 16).map fun i => ad (gw s i) (gw t i)
theorem sumL16_length (s t : List Wd) : (sumL16 s t).length = 16 := by simp [sumL16]
theorem sumL16_get (s t : List Wd) (i : Nat) (h : i < 16) : (sumL16 s t)[i]? = some (ad (gw s i) (gw t i)) := by simp [sumL16, h]
theorem sumL16_gw (s t : List Wd) (i : Nat) (h : i < 16) : gw (sumL16 s t) i = ad (gw s i) (gw t i) := by unfold gw; rw [sumL16_get s t i h]; rfl
/-- Two lists of one length: of the one what has come, of the other the rest. -/
def mixed {α : Type} (s t : List α) (k : Nat) : List α := s.take k ++ t.drop k
theorem mixed_zero {α : Type} (s t : List α) : mixed s t 0 = t := by simp [mixed]
theorem mixed_all {α : Type} (s t : List α) (n : Nat) (hs : s.length = n) (ht : t.length = n) : mixed s t n = s := by
  simp [mixed, List.take_of_length_le (show s.length ≤ n by omega), List.drop_of_length_le (show t.length ≤ n by omega)]
theorem mixed_length {α : Type} (s t : List α) (k n : Nat) (hs : s.length = n) (ht : t.length = n) (hk : k ≤ n) : (mixed s t k).length = n := by simp [mixed]; omega
theorem mixed_at {α : Type} (s t : List α) (k n : Nat) (hs : s.length = n) (hk : k < n) : (mixed s t k)[k]? = t[k]? := by
  unfold mixed
  rw [List.getElem?_append_right (by simp; omega)]
  simp [show min k s.length = k by omega]
theorem mixed_gw (s t : List Wd) (k n : Nat) (hs : s.length = n) (hk : k < n) : gw (mixed s t k) k = gw t k := by unfold gw; rw [mixed_at s t k n hs hk]
theorem mixed_set {α : Type} (s t : List α) (k n : Nat) (hs : s.length = n) (ht : t.length = n) (hk : k < n) (x : α) (hx : s[k]? = some x) : (mixed s t k).set k x = mixed s t (k + 1) := by
  have hx' : s[k]'(by omega) = x := by
    rw [List.getElem?_eq_getElem (by omega)] at hx
    exact Option.some.inj hx
  unfold mixed
  rw [List.set_append_right k x (by simp; omega), List.take_succ_eq_append_getElem (by omega), hx', List.drop_eq_getElem_cons (show k < t.length by omega)]
  simp only [List.length_take, show min k s.length = k by omega, Nat.sub_self, List.set_cons_zero, List.append_assoc, List.singleton_append]

/-- The bytes of a word, the lowest first; those of sixteen words. -/
def loOf (x : Wd) (j : Nat) : By := (sr x (8 * j)).setWidth 8
theorem v8_loOf (x : Wd) (j : Nat) : u (sr x (8 * j)) % 256 = v8 (loOf x j) := by
  unfold u v8 loOf
  rw [BitVec.toNat_setWidth]
  omega
def bytesL (s : List Wd) : List By := (List.range 64).map fun i => loOf (gw s (i / 4)) (i % 4)
theorem bytesL_length (s : List Wd) : (bytesL s).length = 64 := by simp [bytesL]
theorem bytesL_get (s : List Wd) (i : Nat) (h : i < 64) : (bytesL s)[i]? = some (loOf (gw s (i / 4)) (i % 4)) := by simp [bytesL, h]

/-- The block. -/
def blockL (key : List By) (count : Wd) (nonce : List By) : List By :=
  bytesL (sumL16 (roundsL (stateL key count nonce) 10) (stateL key count nonce))
theorem blockL_length (key : List By) (count : Wd) (nonce : List By) : (blockL key count nonce).length = 64 := bytesL_length _
end Go.Proofs.YtcdmnbmniiblgaaGreatDoor
