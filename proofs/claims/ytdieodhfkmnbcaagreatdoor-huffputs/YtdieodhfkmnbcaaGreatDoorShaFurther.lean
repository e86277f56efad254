/-
  A state, a block further, on lists: no program in sight.
-/
import Derived.Test.YtdieodhfkmnbcaaGreatDoorShaSched
namespace Go.Proofs.YtdieodhfkmnbcaaGreatDoor
open Go

/-- The words a to h behind t turns. -/
def roundsTo (s k w : List Wd) : Nat → List Wd
  | 0 => s
  | t + 1 => turnL (roundsTo s k w t) (ad (gw k t) (gw w t))
theorem roundsTo_length (s k w : List Wd) (hs : s.length = 8) : ∀ t, (roundsTo s k w t).length = 8
  | 0 => hs
  | _ + 1 => rfl
/-- Each with what the other has, added. -/
def sumS (s n : List Wd) : List Wd := (List.range 8).map fun i => ad (gw s i) (gw n i)
theorem sumS_length (s n : List Wd) : (sumS s n).length = 8 := by simp [sumS]
theorem sumS_get (s n : List Wd) (i : Nat) (h : i < 8) : (sumS s n)[i]? = some (ad (gw s i) (gw n i)) := by simp [sumS, h]
theorem ad_comm (a b : Wd) : ad a b = ad b a := by unfold ad; exact BitVec.add_comm a b
theorem ad_assoc (a b c : Wd) : ad (ad a b) c = ad a (ad b c) := by unfold ad; exact BitVec.add_assoc a b c
/-- A state, a block further, by the words K. -/
def furtherL (s k : List Wd) (b : List By) : List Wd := sumS s (roundsTo s k (sched b) 64)
theorem furtherL_length (s k : List Wd) (b : List By) : (furtherL s k b).length = 8 := sumS_length _ _

/-- One by one: what has come, and behind it what was. -/
def mix {α : Type} (l r : List α) (i : Nat) : List α := l.take i ++ r.drop i
theorem mix_length {α : Type} (l r : List α) (i n : Nat) (hl : l.length = n) (hr : r.length = n) (hi : i ≤ n) : (mix l r i).length = n := by simp [mix, hl, hr]; omega
theorem mix_zero {α : Type} (l r : List α) : mix l r 0 = r := by simp [mix]
theorem mix_all {α : Type} (l r : List α) (n : Nat) (hl : l.length = n) (hr : r.length = n) : mix l r n = l := by
  unfold mix
  rw [List.take_of_length_le (by omega), List.drop_of_length_le (by omega), List.append_nil]
theorem mix_get {α : Type} (l r : List α) (i n : Nat) (hl : l.length = n) (hi : i < n) : (mix l r i)[i]? = r[i]? := by
  unfold mix
  rw [List.getElem?_append_right (by simp; omega), List.length_take, show min i l.length = i by omega, Nat.sub_self, List.getElem?_drop, Nat.add_zero]
theorem mix_set {α : Type} (l r : List α) (i n : Nat) (hl : l.length = n) (hr : r.length = n) (hi : i < n) (x : α) (hx : l[i]? = some x) : (mix l r i).set i x = mix l r (i + 1) := by
  have hx' : l[i]'(by omega) = x := by
    rw [List.getElem?_eq_getElem (by omega)] at hx
    exact Option.some.inj hx
  unfold mix
  rw [List.set_append_right i x (by simp; omega), List.take_succ_eq_append_getElem (by omega), hx', List.length_take, show min i l.length = i by omega, Nat.sub_self, List.drop_eq_getElem_cons (show i < r.length by omega), List.set_cons_zero, List.append_assoc]
  rfl
theorem gw_mix (l r : List Wd) (i n : Nat) (hl : l.length = n) (hi : i < n) : gw (mix l r i) i = gw r i := by unfold gw; rw [mix_get l r i n hl hi]
end Go.Proofs.YtdieodhfkmnbcaaGreatDoor
