/-
  SHA-256 on lists of words and bytes: no program in sight.
-/
import Derived.Test.YtdieodhfkmnbcaaGreatDoorShaArr
namespace Go.Proofs.YtdieodhfkmnbcaaGreatDoor
open Go

/-- The bytes of a word, the highest first. -/
def byteOf (x : Wd) (j : Nat) : By := (sr x (24 - 8 * j)).setWidth 8
theorem v8_byteOf (x : Wd) (j : Nat) : u (sr x (24 - 8 * j)) % 256 = v8 (byteOf x j) := by
  unfold u v8 byteOf
  rw [BitVec.toNat_setWidth]
  omega
/-- The bytes of words. -/
def sumB (s : List Wd) : List By := (List.range 32).map fun i => byteOf (gw s (i / 4)) (i % 4)
theorem sumB_length (s : List Wd) : (sumB s).length = 32 := by simp [sumB]
theorem sumB_get (s : List Wd) (i : Nat) (h : i < 32) : (sumB s)[i]? = some (byteOf (gw s (i / 4)) (i % 4)) := by simp [sumB, h]

/-- One by one: what has come, and nothing yet behind it. -/
theorem fill_set {α : Type} (l : List α) (z : α) (k n : Nat) (hl : l.length = n) (hk : k < n) (x : α) (hx : l[k]? = some x) :
    (l.take k ++ List.replicate (n - k) z).set k x = l.take (k + 1) ++ List.replicate (n - (k + 1)) z := by
  have hx' : l[k]'(by omega) = x := by
    rw [List.getElem?_eq_getElem (by omega)] at hx
    exact Option.some.inj hx
  rw [List.set_append_right k x (by simp; omega), List.take_succ_eq_append_getElem (by omega), hx']
  have e : n - k = (n - (k + 1)) + 1 := by omega
  simp only [List.length_take, show min k l.length = k by omega, Nat.sub_self, e, List.replicate_succ, List.set_cons_zero, List.append_assoc, List.singleton_append]

/-- The bits of f where e's are set, else those of g; those that at least two of a, b, c have. -/
def ch (e f g : Wd) : Wd := xr (an e f) (an (nt e) g)
def maj (a b c : Wd) : Wd := xr (xr (an a b) (an a c)) (an b c)
theorem ch_or (e f g : Wd) : oo (an e f) (an (nt e) g) = ch e f g := by
  unfold ch oo an nt xr
  apply BitVec.eq_of_getElem_eq
  intro i hi
  simp only [BitVec.getElem_or, BitVec.getElem_and, BitVec.getElem_not, BitVec.getElem_xor]
  cases e[i] <;> cases f[i] <;> cases g[i] <;> rfl
theorem maj_or (a b c : Wd) : oo (oo (an a b) (an a c)) (an b c) = maj a b c := by
  unfold maj oo an xr
  apply BitVec.eq_of_getElem_eq
  intro i hi
  simp only [BitVec.getElem_or, BitVec.getElem_and, BitVec.getElem_xor]
  cases a[i] <;> cases b[i] <;> cases c[i] <;> rfl
/-- Three taken against one another. -/
def S1 (e : Wd) : Wd := xr (xr (rr e 6) (rr e 11)) (rr e 25)
def S0 (a : Wd) : Wd := xr (xr (rr a 2) (rr a 13)) (rr a 22)
def s1 (x : Wd) : Wd := xr (xr (rr x 17) (rr x 19)) (sr x 10)
def s0 (y : Wd) : Wd := xr (xr (rr y 7) (rr y 18)) (sr y 3)
def T1 (e f g h kw : Wd) : Wd := ad (ad (ad h (S1 e)) (ch e f g)) kw
def T2 (a b c : Wd) : Wd := ad (S0 a) (maj a b c)
/-- One of the 64 turns. -/
def turnL (s : List Wd) (kw : Wd) : List Wd :=
  [ad (T1 (gw s 4) (gw s 5) (gw s 6) (gw s 7) kw) (T2 (gw s 0) (gw s 1) (gw s 2)), gw s 0, gw s 1, gw s 2, ad (gw s 3) (T1 (gw s 4) (gw s 5) (gw s 6) (gw s 7) kw), gw s 4, gw s 5, gw s 6]
theorem turnL_length (s : List Wd) (kw : Wd) : (turnL s kw).length = 8 := rfl
theorem eight {α : Type} {s : List α} (h : s.length = 8) : ∃ a b c d e f g i, s = [a, b, c, d, e, f, g, i] := by
  match s, h with
  | [a, b, c, d, e, f, g, i], _ => exact ⟨a, b, c, d, e, f, g, i, rfl⟩
end Go.Proofs.YtdieodhfkmnbcaaGreatDoor
