/-
  The blocks of bytes, on lists: no program in sight.
-/
import Derived.Test.YtdieodhfkmnbcaaGreatDoorShaFurther
import Derived.Test.YtdieodhfkmnbcaaGreatDoorShaPrimes
namespace Go.Proofs.YtdieodhfkmnbcaaGreatDoor
open Go

/-- 64 bytes. -/
abbrev Blk := { x : List By // x.length = 64 }
/-- The first 64 of bytes. -/
def mkBlk (l : List By) : Blk := ⟨(l ++ List.replicate 64 0).take 64, by simp⟩
theorem mkBlk_ge (l : List By) (h : 64 ≤ l.length) : (mkBlk l).1 = l.take 64 := by
  show (l ++ List.replicate 64 0).take 64 = l.take 64
  rw [List.take_append_of_le_length h]
theorem mkBlk_eq (l : List By) (h : l.length = 64) : (mkBlk l).1 = l := by rw [mkBlk_ge l (by omega), List.take_of_length_le (by omega)]

/-- How many bytes 00 stand behind the byte 80. -/
def padZ (n : Nat) : Nat := (119 - n % 64) % 64
theorem padZ_le (n : Nat) : padZ n ≤ 63 := by unfold padZ; omega
theorem padZ_mod (n : Nat) : (n + 1 + padZ n) % 64 = 56 := by unfold padZ; omega
/-- How many bits there are, as eight bytes. -/
def lenB (n : Nat) : List By := (List.range 8).map fun j => BitVec.ofNat 8 (8 * n / 2 ^ (8 * (7 - j)))
theorem lenB_length (n : Nat) : (lenB n).length = 8 := by simp [lenB]
theorem lenB_get (n j : Nat) (h : j < 8) : (lenB n)[j]? = some (BitVec.ofNat 8 (8 * n / 2 ^ (8 * (7 - j)))) := by simp [lenB, h]
/-- The bytes of the blocks. -/
def padL (b : List By) : List By := b ++ (128 :: (List.replicate (padZ b.length) 0 ++ lenB b.length))
theorem padL_length (b : List By) : (padL b).length = b.length + padZ b.length + 9 := by
  unfold padL
  rw [List.length_append, List.length_cons, List.length_append, List.length_replicate, lenB_length]
  omega
/-- How many blocks. -/
def nb (b : List By) : Nat := (b.length + padZ b.length + 9) / 64
theorem nb_mul (b : List By) : 64 * nb b = (padL b).length := by
  have := padZ_mod b.length
  rw [padL_length]
  unfold nb
  omega
/-- The blocks. -/
def blkAt (b : List By) (i : Nat) : Blk := mkBlk ((padL b).drop (64 * i))
def blkTo (b : List By) (k : Nat) : List Blk := (List.range k).map (blkAt b)
theorem blkTo_succ (b : List By) (k : Nat) : blkTo b (k + 1) = blkTo b k ++ [blkAt b k] := by unfold blkTo; rw [List.range_succ]; simp
theorem blkTo_length (b : List By) (k : Nat) : (blkTo b k).length = k := by simp [blkTo]
theorem blkAt_take (b : List By) (i : Nat) (h : i < nb b) : (blkAt b i).1 = ((padL b).drop (64 * i)).take 64 := by
  unfold blkAt
  exact mkBlk_ge _ (by rw [List.length_drop, ← nb_mul]; omega)
/-- A block within the bytes. -/
theorem blkAt_full (b : List By) (i : Nat) (h : 64 * i + 64 ≤ b.length) : (blkAt b i).1 = (b.drop (64 * i)).take 64 := by
  have hn : i < nb b := by unfold nb; omega
  rw [blkAt_take b i hn]
  unfold padL
  rw [List.drop_append_of_le_length (by omega), List.take_append_of_le_length (by rw [List.length_drop]; omega)]
theorem nb_small (b : List By) (h : b.length % 64 + 9 ≤ 64) : nb b = b.length / 64 + 1 := by unfold nb padZ; omega
theorem nb_great (b : List By) (h : 64 < b.length % 64 + 9) : nb b = b.length / 64 + 2 := by unfold nb padZ; omega
/-- The last block, where what is left and the length fit into one. -/
theorem blkAt_small (b : List By) (h : b.length % 64 + 9 ≤ 64) : (blkAt b (b.length / 64)).1 = b.drop (64 * (b.length / 64)) ++ (128 :: (List.replicate (55 - b.length % 64) 0 ++ lenB b.length)) := by
  rw [blkAt_take b _ (by rw [nb_small b h]; omega)]
  unfold padL
  have e : padZ b.length = 55 - b.length % 64 := by unfold padZ; omega
  rw [List.drop_append_of_le_length (by omega), e, List.take_of_length_le]
  simp only [List.length_append, List.length_drop, List.length_cons, List.length_replicate, lenB_length]
  omega
theorem blkAt_great (b : List By) (h : 64 < b.length % 64 + 9) : (blkAt b (b.length / 64)).1 = b.drop (64 * (b.length / 64)) ++ (128 :: List.replicate (63 - b.length % 64) 0) ∧ (blkAt b (b.length / 64 + 1)).1 = List.replicate 56 0 ++ lenB b.length := by
  have hn := nb_great b h
  have e : padZ b.length = (63 - b.length % 64) + 56 := by unfold padZ; omega
  have e2 : padL b = (b ++ (128 :: List.replicate (63 - b.length % 64) 0)) ++ (List.replicate 56 0 ++ lenB b.length) := by
    unfold padL
    rw [e, ← List.replicate_append_replicate]
    simp only [List.append_assoc, List.cons_append]
  have hl : (b ++ (128 :: List.replicate (63 - b.length % 64) 0)).length = 64 * (b.length / 64 + 1) := by
    simp only [List.length_append, List.length_cons, List.length_replicate]
    omega
  constructor
  · rw [blkAt_take b _ (by omega), e2, List.drop_append_of_le_length (by omega), List.take_append_of_le_length (by rw [List.length_drop, hl]; omega), List.take_of_length_le (by rw [List.length_drop, hl]; omega), List.drop_append_of_le_length (by omega)]
  · rw [blkAt_take b _ (by omega), e2, ← hl, List.drop_left, List.take_of_length_le (by simp [lenB_length])]

/-- The length goes into the last eight of 64 bytes, the lowest first. -/
def lenSet (l : List By) (n : Nat) : Nat → List By
  | 0 => l
  | k + 1 => (lenSet l n k).set (63 - k) (BitVec.ofNat 8 (8 * n / 2 ^ (8 * k)))
theorem lenSet_length (l : List By) (n k : Nat) : (lenSet l n k).length = l.length := by
  induction k with
  | zero => rfl
  | succ k ih => rw [lenSet, List.length_set, ih]
theorem lenSet_get (l : List By) (n : Nat) (hl : l.length = 64) : ∀ k, k ≤ 8 → ∀ j, (lenSet l n k)[j]? = if 64 - k ≤ j ∧ j < 64 then some (BitVec.ofNat 8 (8 * n / 2 ^ (8 * (63 - j)))) else l[j]?
  | 0, _, j => by
    rw [lenSet, if_neg (by omega)]
  | k + 1, h, j => by
    rw [lenSet, List.getElem?_set, lenSet_length, hl]
    by_cases hj : 63 - k = j
    · subst hj
      rw [if_pos rfl, if_pos (by omega), if_pos (by omega), show 63 - (63 - k) = k by omega]
    · rw [if_neg hj, lenSet_get l n hl k (by omega) j]
      by_cases h2 : 64 - k ≤ j ∧ j < 64
      · rw [if_pos h2, if_pos (by omega)]
      · rw [if_neg h2, if_neg (by omega)]
theorem lenSet_all (l : List By) (n : Nat) (hl : l.length = 64) : lenSet l n 8 = l.take 56 ++ lenB n := by
  apply List.ext_getElem?
  intro j
  rw [lenSet_get l n hl 8 (by omega) j]
  by_cases h : 56 ≤ j
  · rw [List.getElem?_append_right (by rw [List.length_take]; omega), List.length_take, show min 56 l.length = 56 by omega]
    by_cases h2 : j < 64
    · rw [if_pos (by omega), lenB_get n (j - 56) (by omega), show 7 - (j - 56) = 63 - j by omega]
    · rw [if_neg (by omega), List.getElem?_eq_none (by omega), List.getElem?_eq_none (by rw [lenB_length]; omega)]
  · rw [if_neg (by omega), List.getElem?_append_left (by rw [List.length_take]; omega), List.getElem?_take, if_pos (by omega)]
theorem set_128 (l : List By) (r : Nat) (hl : l.length = r) (hr : r < 64) : (l ++ List.replicate (64 - r) 0).set r 128 = l ++ (128 :: List.replicate (63 - r) 0) := by
  rw [List.set_append_right r _ (by omega), hl, Nat.sub_self, show 64 - r = (63 - r) + 1 by omega, List.replicate_succ, List.set_cons_zero]

theorem lenByte (i L k : Nat) : 8 * (64 * (i : Int) + (L : Int)) / 2 ^ (8 * k) % 256 = v8 (BitVec.ofNat 8 (8 * (64 * i + L) / 2 ^ (8 * k))) := by
  unfold v8
  rw [BitVec.toNat_ofNat]
  have e : 8 * (64 * (i : Int) + (L : Int)) / 2 ^ (8 * k) = ((8 * (64 * i + L) / 2 ^ (8 * k) : Nat) : Int) := by
    rw [Int.natCast_ediv, Int.natCast_pow]
    push_cast
    rfl
  rw [e]
  omega
/-- The state that blocks lead to; the sum. -/
def chain (s : List Wd) (l : List Blk) : List Wd := l.foldl (fun s x => furtherL s KW x.1) s
theorem chain_snoc (s : List Wd) (l : List Blk) (x : Blk) : chain s (l ++ [x]) = furtherL (chain s l) KW x.1 := by simp [chain]
theorem chain_length (s : List Wd) (hs : s.length = 8) (l : List Blk) : (chain s l).length = 8 := by
  rcases List.eq_nil_or_concat l with rfl | ⟨p, x, rfl⟩
  · exact hs
  · rw [List.concat_eq_append, chain_snoc]; exact furtherL_length _ _ _
def sumL (b : List By) : List By := sumB (chain HW (blkTo b (nb b)))
theorem sumL_length (b : List By) : (sumL b).length = 32 := sumB_length _
end Go.Proofs.YtdieodhfkmnbcaaGreatDoor
