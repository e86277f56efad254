/-
  Which words have so many bits, one word behind the other: no program in sight.
-/
import Derived.Test.YtiecpkkklefjdaaGreatDoorGuHfTab
namespace Go.Proofs.YtiecpkkklefjdaaGreatDoor
open Go

/-- Which of the first so many words have so many bits. -/
def symP (n i : Nat) : List Nat := (List.range i).filter fun j => Hf.sz j == n
theorem symP_zero (n : Nat) : symP n 0 = [] := rfl
theorem symP_next (n i : Nat) : symP n (i + 1) = symP n i ++ (if Hf.sz i = n then [i] else []) := by
  unfold symP
  rw [List.range_succ, List.filter_append]
  congr 1
  by_cases c : Hf.sz i = n
  · simp [c]
  · simp [c]
theorem symP_all : (List.range 31).all (fun n => decide (symP n 257 = Hf.symAt n)) = true := by decide +kernel
theorem symP_last {n : Nat} (h : n < 31) : symP n 257 = Hf.symAt n := of_decide_eq_true (List.all_eq_true.1 symP_all n (List.mem_range.2 h))
theorem symP_le (n i : Nat) : (symP n i).length ≤ i := by
  unfold symP
  have := List.length_filter_le (fun j => Hf.sz j == n) (List.range i)
  rw [List.length_range] at this
  exact this
theorem val_all : (List.range 257).all (fun i => decide (Hf.val i = Hf.first (Hf.sz i) + (symP (Hf.sz i) i).length)) = true := by decide +kernel
theorem val_symP {i : Nat} (h : i < 257) : Hf.val i = Hf.first (Hf.sz i) + (symP (Hf.sz i) i).length := of_decide_eq_true (List.all_eq_true.1 val_all i (List.mem_range.2 h))
/-- The words as numbers, those that are known so far: of fewer bits, or of so many and ahead. -/
def codP (n k : Nat) : List Nat := (List.range 257).map fun w => if Hf.sz w < n ∨ (Hf.sz w = n ∧ w < k) then Hf.val w else 0
theorem codP_length (n k : Nat) : (codP n k).length = 257 := by simp [codP]
theorem codP_get (n k : Nat) {w : Nat} (h : w < 257) : (codP n k)[w]? = some (if Hf.sz w < n ∨ (Hf.sz w = n ∧ w < k) then Hf.val w else 0) := by simp [codP, h]
theorem codP_next {n k : Nat} (h : k < 257) : codP n (k + 1) = if Hf.sz k = n then (codP n k).set k (Hf.val k) else codP n k := by
  apply List.ext_getElem?
  intro w
  by_cases hw : w < 257
  · by_cases e : Hf.sz k = n
    · rw [if_pos e, codP_get _ _ hw, List.getElem?_set]
      by_cases c : k = w
      · subst c
        rw [if_pos (show Hf.sz k < n ∨ (Hf.sz k = n ∧ k < k + 1) from .inr ⟨e, by omega⟩), if_pos rfl, if_pos (show k < (codP n k).length by rw [codP_length]; exact h)]
      · rw [if_neg c, codP_get _ _ hw]
        congr 1
        by_cases d : Hf.sz w < n ∨ (Hf.sz w = n ∧ w < k)
        · rw [if_pos d, if_pos (by omega)]
        · rw [if_neg d, if_neg (by omega)]
    · rw [if_neg e, codP_get _ _ hw, codP_get _ _ hw]
      congr 1
      by_cases d : Hf.sz w < n ∨ (Hf.sz w = n ∧ w < k)
      · rw [if_pos d, if_pos (by omega)]
      · rw [if_neg d, if_neg (fun x => d (by
          rcases x with x | ⟨x, y⟩
          · exact .inl x
          · refine .inr ⟨x, ?_⟩
            rcases Nat.lt_or_ge w k with z | z
            · exact z
            · rw [show w = k by omega] at x; exact absurd x e))]
  · rw [List.getElem?_eq_none (by rw [codP_length]; omega), List.getElem?_eq_none (by split <;> simp [codP_length] <;> omega)]
theorem codP_row (n : Nat) : codP n 257 = codP (n + 1) 0 := by
  apply List.map_congr_left
  intro w hw
  have := List.mem_range.1 hw
  by_cases d : Hf.sz w < n + 1
  · rw [if_pos (by omega), if_pos (by omega)]
  · rw [if_neg (by omega), if_neg (by omega)]
theorem codP_zero : codP 1 0 = List.replicate 257 0 := by decide +kernel
theorem codP_last : codP 31 0 = Hf.valL := by decide +kernel
end Go.Proofs.YtiecpkkklefjdaaGreatDoor
