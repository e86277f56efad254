/-
  The words of a block, on lists: no program in sight.
-/
import Derived.Test.YtdieodhfkmnbcaaGreatDoorShaPlain
namespace Go.Proofs.YtdieodhfkmnbcaaGreatDoor
open Go

/-- A byte as a word. -/
def ex (b : By) : Wd := b.setWidth 32
theorem v8_ex (b : By) : v8 b = u (ex b) := by
  have := b.isLt
  unfold v8 u ex
  rw [BitVec.toNat_setWidth]
  omega

/-- The word that bytes make, the highest first. -/
def wordUp (l : List By) : Wd := l.foldl (fun w c => oo (sl w 8) (ex c)) 0
theorem wordUp_snoc (l : List By) (c : By) : wordUp (l ++ [c]) = oo (sl (wordUp l) 8) (ex c) := by simp [wordUp]

/-- The words when i bytes have come. -/
def parts (b : List By) (i : Nat) : List Wd := (List.range 64).map fun q => wordUp ((b.drop (4 * q)).take (min 4 (i - 4 * q)))
theorem parts_length (b : List By) (i : Nat) : (parts b i).length = 64 := by simp [parts]
theorem parts_get (b : List By) (i q : Nat) (h : q < 64) : gw (parts b i) q = wordUp ((b.drop (4 * q)).take (min 4 (i - 4 * q))) := by simp [gw, parts, h]
theorem parts_zero (b : List By) : parts b 0 = List.replicate 64 0 := by
  apply List.ext_getElem
  · simp [parts]
  · intro j h1 h2
    rw [List.getElem_replicate]
    simp only [parts, List.getElem_map, Nat.zero_sub, Nat.min_zero, List.take_zero]
    rfl
theorem parts_step (b : List By) (i : Nat) (hb : b.length = 64) (hi : i < 64) : (parts b i).set (i / 4) (oo (sl (gw (parts b i) (i / 4)) 8) (ex (gb b i))) = parts b (i + 1) := by
  rw [parts_get b i (i / 4) (by omega)]
  apply List.ext_getElem
  · simp [parts]
  · intro j h1 h2
    rw [List.getElem_set]
    split
    · rename_i h
      subst h
      simp only [parts, List.getElem_map, List.getElem_range]
      have e1 : min 4 (i - 4 * (i / 4)) = i - 4 * (i / 4) := by omega
      have e2 : min 4 (i + 1 - 4 * (i / 4)) = i - 4 * (i / 4) + 1 := by omega
      rw [e1, e2, List.take_succ_eq_append_getElem (by simp; omega), wordUp_snoc]
      congr 2
      simp only [List.getElem_drop, gb]
      have aux : ∀ (k : Nat) (hk : k < b.length), k = i → b[i]?.getD 0 = b[k] := fun k hk e => by subst e; simp [hk]
      exact aux _ _ (by omega)
    · rename_i h
      simp only [parts, List.getElem_map, List.getElem_range]
      rw [show min 4 (i + 1 - 4 * j) = min 4 (i - 4 * j) by omega]

def first16 (b : List By) : List Wd := (List.range 16).map fun q => wordUp ((b.drop (4 * q)).take 4)
theorem first16_length (b : List By) : (first16 b).length = 16 := by simp [first16]
theorem parts_all (b : List By) : parts b 64 = first16 b ++ List.replicate 48 0 := by
  apply List.ext_getElem
  · simp [parts, first16]
  · intro j h1 h2
    have hj : j < 64 := by simpa [parts] using h1
    simp only [parts, List.getElem_map, List.getElem_range, List.getElem_append, first16_length]
    split
    · rename_i h
      simp only [first16, List.getElem_map, List.getElem_range]
      rw [show min 4 (64 - 4 * j) = 4 by omega]
    · rename_i h
      rw [show min 4 (64 - 4 * j) = 0 by omega, List.getElem_replicate, List.take_zero]
      rfl

/-- The word behind words. -/
def nextW (l : List Wd) : Wd := ad (ad (ad (s1 (gw l (l.length - 2))) (gw l (l.length - 7))) (s0 (gw l (l.length - 15)))) (gw l (l.length - 16))
def schedN (b : List By) : Nat → List Wd
  | 0 => first16 b
  | n + 1 => schedN b n ++ [nextW (schedN b n)]
theorem schedN_length (b : List By) : ∀ n, (schedN b n).length = 16 + n
  | 0 => first16_length b
  | n + 1 => by rw [schedN, List.length_append, schedN_length b n]; rfl
def sched (b : List By) : List Wd := schedN b 48
theorem sched_length (b : List By) : (sched b).length = 64 := schedN_length b 48
/-- The row while its words are reckoned. -/
def schedR (b : List By) (n : Nat) : List Wd := schedN b n ++ List.replicate (48 - n) 0
theorem schedR_length (b : List By) (n : Nat) (h : n ≤ 48) : (schedR b n).length = 64 := by simp [schedR, schedN_length]; omega
theorem schedR_get (b : List By) (n j : Nat) (h : j < 16 + n) : gw (schedR b n) j = gw (schedN b n) j := by
  unfold gw schedR
  rw [List.getElem?_append_left (by rw [schedN_length]; exact h)]
theorem schedR_step (b : List By) (n : Nat) (h : n < 48) : (schedR b n).set (16 + n) (ad (ad (ad (s1 (gw (schedR b n) (16 + n - 2))) (gw (schedR b n) (16 + n - 7))) (s0 (gw (schedR b n) (16 + n - 15)))) (gw (schedR b n) (16 + n - 16))) = schedR b (n + 1) := by
  rw [schedR_get b n _ (by omega), schedR_get b n _ (by omega), schedR_get b n _ (by omega), schedR_get b n _ (by omega)]
  have e : nextW (schedN b n) = ad (ad (ad (s1 (gw (schedN b n) (16 + n - 2))) (gw (schedN b n) (16 + n - 7))) (s0 (gw (schedN b n) (16 + n - 15)))) (gw (schedN b n) (16 + n - 16)) := by
    unfold nextW; rw [schedN_length]
  rw [← e]
  unfold schedR
  rw [List.set_append_right _ _ (by rw [schedN_length]; omega), schedN_length, show 48 - n = (48 - (n + 1)) + 1 by omega, List.replicate_succ, Nat.sub_self, List.set_cons_zero, schedN, List.append_assoc]
  rfl
theorem schedR_all (b : List By) : schedR b 48 = sched b := by simp [schedR, sched]
theorem schedR_zero (b : List By) : schedR b 0 = parts b 64 := by rw [parts_all]; rfl
end Go.Proofs.YtdieodhfkmnbcaaGreatDoor
