/-
  How the code's tables come about, step by step: no program in sight.
-/
import Derived.Test.YtiecpkkklefjdaaGreatDoorGuHfPlain
namespace Go.Proofs.YtiecpkkklefjdaaGreatDoor
open Go
namespace Hf

/-- One more. -/
def bump (l : List Nat) (k : Nat) : List Nat := l.set k (gn l k + 1)
theorem bump_length (l : List Nat) (k : Nat) : (bump l k).length = l.length := by simp [bump]
theorem bump_gn (l : List Nat) (k j : Nat) : gn (bump l k) j ≤ gn l j + 1 := by
  unfold bump gn
  rw [List.getElem?_set]
  split
  · rename_i h
    subst h
    split
    · simp
    · rename_i h2
      simp
  · omega
def bumps (l : List Nat) (ks : List Nat) : List Nat := ks.foldl bump l
theorem bumps_length (l ks : List Nat) : (bumps l ks).length = l.length := by
  induction ks generalizing l with
  | nil => rfl
  | cons k ks ih => exact (ih (bump l k)).trans (bump_length l k)
theorem bumps_gn (l ks : List Nat) (j : Nat) : gn (bumps l ks) j ≤ gn l j + ks.length := by
  induction ks generalizing l with
  | nil => exact Nat.le_refl _
  | cons k ks ih =>
    have h1 := ih (bump l k)
    have h2 := bump_gn l k j
    rw [List.length_cons]
    have e : bumps l (k :: ks) = bumps (bump l k) ks := rfl
    rw [e]
    omega
theorem bumps_snoc (l ks : List Nat) (k : Nat) : bumps l (ks ++ [k]) = bump (bumps l ks) k := by simp [bumps]
theorem take_next {k : Nat} (h : k < 257) : szL.take (k + 1) = szL.take k ++ [sz k] := by
  rw [List.take_add_one]
  congr 1
  unfold sz
  rw [List.getElem?_eq_getElem (by rw [sz_len]; exact h)]
  rfl
/-- How many words of each size are among the first so many; which one of a size comes next. -/
def manyTo (k : Nat) : List Nat := bumps (List.replicate 31 0) (szL.take k)
def nextTo (k : Nat) : List Nat := bumps firstL (szL.take k)
theorem manyTo_length (k : Nat) : (manyTo k).length = 31 := by unfold manyTo; rw [bumps_length, List.length_replicate]
theorem nextTo_length (k : Nat) : (nextTo k).length = 31 := by unfold nextTo; rw [bumps_length, first_len]
theorem manyTo_next {k : Nat} (h : k < 257) : manyTo (k + 1) = bump (manyTo k) (sz k) := by unfold manyTo; rw [take_next h, bumps_snoc]
theorem nextTo_next {k : Nat} (h : k < 257) : nextTo (k + 1) = bump (nextTo k) (sz k) := by unfold nextTo; rw [take_next h, bumps_snoc]
theorem manyTo_le (k j : Nat) : gn (manyTo k) j ≤ 257 := by
  have h := bumps_gn (List.replicate 31 0) (szL.take k) j
  have h0 : gn (List.replicate 31 0) j = 0 := by
    unfold gn
    rw [List.getElem?_replicate]
    split <;> rfl
  have h1 : (szL.take k).length ≤ 257 := by rw [List.length_take, sz_len]; omega
  unfold manyTo
  omega
theorem first_le (j : Nat) : gn firstL j ≤ 1073741820 := by
  have h : (List.range 31).all (fun j => decide (gn firstL j ≤ 1073741820)) = true := by decide +kernel
  by_cases c : j < 31
  · exact of_decide_eq_true (List.all_eq_true.1 h j (List.mem_range.2 c))
  · unfold gn
    rw [List.getElem?_eq_none (by rw [first_len]; omega)]
    simp
theorem nextTo_le (k j : Nat) : gn (nextTo k) j ≤ 1073742077 := by
  have h := bumps_gn firstL (szL.take k) j
  have h0 := first_le j
  have h1 : (szL.take k).length ≤ 257 := by rw [List.length_take, sz_len]; omega
  unfold nextTo
  omega
theorem manyTo_last : manyTo 257 = cntL := by decide +kernel
theorem manyTo_zero : manyTo 0 = List.replicate 31 0 := rfl
theorem nextTo_zero : nextTo 0 = firstL := rfl
/-- The words, one by one. -/
def valsF : List Nat → List Nat → List Nat
  | [], _ => []
  | s :: ss, nx => gn nx s :: valsF ss (bump nx s)
theorem valsF_get (ss nx : List Nat) (k : Nat) (h : k < ss.length) : (valsF ss nx)[k]? = some (gn (bumps nx (ss.take k)) (ss[k]?.getD 0)) := by
  induction ss generalizing nx k with
  | nil => simp at h
  | cons s ss ih =>
    cases k with
    | zero => rfl
    | succ k =>
      rw [valsF, List.getElem?_cons_succ, ih (bump nx s) k (by simpa using h)]
      rfl
theorem vals_are : valsF szL firstL = valL := by decide +kernel
theorem val_is {k : Nat} (h : k < 257) : val k = gn (nextTo k) (sz k) := by
  unfold val
  rw [← vals_are, valsF_get szL firstL k (by rw [sz_len]; exact h)]
  rfl
def wordsL : List (Nat × Nat) := (List.range 257).map fun i => (sz i, val i)
theorem wordsL_length : wordsL.length = 257 := by simp [wordsL]
theorem wordsL_get {k : Nat} (h : k < 257) : wordsL[k]? = some (sz k, val k) := by simp [wordsL, h]
theorem sz_le {k : Nat} (h : k < 257) : sz k ≤ 30 := (word_ok h).2.1
theorem gn_sz (k : Nat) : gn szL k = sz k := rfl
/-- The first words, one by one. -/
theorem first_set {n : Nat} (h : n < 30) : gn firstL (n + 1) = 2 * (gn firstL n + gn cntL n) := first_next h
end Hf
end Go.Proofs.YtiecpkkklefjdaaGreatDoor
