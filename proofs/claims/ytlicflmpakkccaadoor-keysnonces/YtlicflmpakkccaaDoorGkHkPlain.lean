/-
  MACs and the bytes of a key, on lists: no program in sight.
-/
import Derived.Test.YtlicflmpakkccaaDoorGk1
namespace Go.Proofs.YtlicflmpakkccaaDoor
open Go

/-- A key as MACs take it. -/
def keyL (key : List By) : List By := if 64 < key.length then sumL key ++ List.replicate 32 0 else key ++ List.replicate (64 - key.length) 0
theorem keyL_length (key : List By) : (keyL key).length = 64 := by
  unfold keyL
  split
  · rw [List.length_append, sumL_length, List.length_replicate]
  · rw [List.length_append, List.length_replicate]; omega
/-- A key's pad with a byte. -/
def padX (k : List By) (x : By) : List By := k.map (· ^^^ x)
theorem padX_length (k : List By) (x : By) : (padX k x).length = k.length := by simp [padX]
/-- The MAC of bytes by a key that is 64 bytes. -/
def macK (k b : List By) : List By := sumL (padX k 92 ++ sumL (padX k 54 ++ b))
theorem macK_length (k b : List By) : (macK k b).length = 32 := sumL_length _
/-- The parts T1, T2 .. of a key and some info. -/
def partL (k info : List By) : Nat → List By
  | 0 => []
  | i + 1 => macK k (partL k info i ++ (info ++ [BitVec.ofNat 8 (i + 1)]))
theorem partL_length (k info : List By) (i : Nat) : (partL k info (i + 1)).length = 32 := macK_length _ _
theorem partL_le (k info : List By) (i : Nat) : (partL k info i).length ≤ 32 := by
  cases i with
  | zero => simp [partL]
  | succ i => rw [partL_length]; exact Nat.le_refl _
/-- 32 bytes. -/
abbrev Prt := { x : List By // x.length = 32 }
def partAt (k info : List By) (i : Nat) : Prt := ⟨partL k info (i + 1), partL_length k info i⟩
def partTo (k info : List By) (m : Nat) : List Prt := (List.range m).map (partAt k info)
theorem partTo_succ (k info : List By) (m : Nat) : partTo k info (m + 1) = partTo k info m ++ [partAt k info m] := by unfold partTo; rw [List.range_succ]; simp
theorem partTo_length (k info : List By) (m : Nat) : (partTo k info m).length = m := by simp [partTo]
def joined (l : List Prt) : List By := (l.map (·.1)).flatten
theorem joined_snoc (l : List Prt) (x : Prt) : joined (l ++ [x]) = joined l ++ x.1 := by simp [joined]
theorem joined_length (l : List Prt) : (joined l).length = 32 * l.length := by
  induction l with
  | nil => rfl
  | cons x l ih =>
    have : joined (x :: l) = x.1 ++ joined l := by simp [joined]
    rw [this, List.length_append, ih, x.2, List.length_cons]; omega
/-- What is told once some parts came. -/
def toldL (n : Nat) (l : List Prt) : List By := (joined l).take n
theorem toldL_length (n : Nat) (l : List Prt) : (toldL n l).length = min n (32 * l.length) := by unfold toldL; rw [List.length_take, joined_length]
theorem toldL_snoc (n : Nat) (l : List Prt) (x : Prt) : toldL n (l ++ [x]) = toldL n l ++ x.1.take (min 32 (n - (toldL n l).length)) := by
  unfold toldL
  rw [joined_snoc, List.take_append, List.length_take]
  congr 1
  rcases Nat.le_total n (joined l).length with h | h
  · rw [Nat.min_eq_left h, Nat.sub_self, Nat.sub_eq_zero_of_le h, Nat.min_eq_right (Nat.zero_le _)]
  · rw [Nat.min_eq_right h]
    rcases Nat.le_total 32 (n - (joined l).length) with h2 | h2
    · rw [Nat.min_eq_left h2, List.take_of_length_le (by rw [x.2]; exact h2), List.take_of_length_le (by rw [x.2]; exact Nat.le_refl _)]
    · rw [Nat.min_eq_right h2]
def nparts (n : Nat) : Nat := (n + 31) / 32
def expandL (k info : List By) (n : Nat) : List By := toldL n (partTo k info (nparts n))
theorem expandL_length (k info : List By) (n : Nat) : (expandL k info n).length = n := by
  unfold expandL nparts
  rw [toldL_length, partTo_length]
  omega
/-- The info of a name, some context and how many. -/
def infoL (name ctx : List By) (n : Nat) : List By :=
  ([BitVec.ofNat 8 (n / 256), BitVec.ofNat 8 n, BitVec.ofNat 8 (name.length + 6)] ++ ([116, 108, 115, 49, 51, 32] ++ name)) ++ ([BitVec.ofNat 8 ctx.length] ++ ctx)
theorem infoL_length (name ctx : List By) (n : Nat) : (infoL name ctx n).length = name.length + ctx.length + 10 := by
  simp [infoL]
  omega
end Go.Proofs.YtlicflmpakkccaaDoor
