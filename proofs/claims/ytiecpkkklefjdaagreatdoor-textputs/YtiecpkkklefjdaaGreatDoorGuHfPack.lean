/-
  Bits as bytes, and back: no program in sight.
-/
import Derived.Test.YtiecpkkklefjdaaGreatDoorGuHfPlain
namespace Go.Proofs.YtiecpkkklefjdaaGreatDoor
open Go
namespace Hf

/-- A byte of eight bits, the highest first. -/
def by8 (a b c d e f g h : Bool) : By := BitVec.ofNat 8 (a.toNat * 128 + b.toNat * 64 + c.toNat * 32 + d.toNat * 16 + e.toNat * 8 + f.toNat * 4 + g.toNat * 2 + h.toNat)
theorem bits_by8 : ∀ a b c d e f g h : Bool, bitsN 8 (by8 a b c d e f g h).toNat = [a, b, c, d, e, f, g, h] := by decide +kernel
def unb (l : List Bool) : By := by8 (l[0]?.getD true) (l[1]?.getD true) (l[2]?.getD true) (l[3]?.getD true) (l[4]?.getD true) (l[5]?.getD true) (l[6]?.getD true) (l[7]?.getD true)
theorem unb_all : (List.range 256).all (fun n => decide (unb (bitsN 8 n) = BitVec.ofNat 8 n)) = true := by decide +kernel
theorem unb_bits (x : By) : unb (bitsN 8 x.toNat) = x := by
  have := of_decide_eq_true (List.all_eq_true.1 unb_all x.toNat (List.mem_range.2 x.isLt))
  rw [this, BitVec.ofNat_toNat]
  simp
/-- The byte number j of bits. -/
def pk (f : Nat → Bool) (j : Nat) : By := by8 (f (8 * j)) (f (8 * j + 1)) (f (8 * j + 2)) (f (8 * j + 3)) (f (8 * j + 4)) (f (8 * j + 5)) (f (8 * j + 6)) (f (8 * j + 7))
/-- The first so many of the bits; ones behind them. -/
def fTo (B : List Bool) (j k : Nat) : Bool := if k < j then B[k]?.getD true else true
def packN (B : List Bool) : Nat := (B.length + 7) / 8
def packTo (B : List Bool) (j : Nat) : List By := (List.range (packN B)).map (pk (fTo B j))
def packL (B : List Bool) : List By := packTo B B.length
theorem packTo_length (B : List Bool) (j : Nat) : (packTo B j).length = packN B := by simp [packTo]
theorem packTo_get (B : List Bool) (j i : Nat) (h : i < packN B) : (packTo B j)[i]? = some (pk (fTo B j) i) := by simp [packTo, h]
theorem packTo_gb (B : List Bool) (j i : Nat) (h : i < packN B) : gb (packTo B j) i = pk (fTo B j) i := by simp [gb, packTo_get B j i h]
theorem packTo_zero (B : List Bool) : packTo B 0 = List.replicate (packN B) 255 := by
  apply List.ext_getElem?
  intro i
  by_cases h : i < packN B
  · have e : fTo B 0 = fun _ => true := by funext k; unfold fTo; rw [if_neg (by omega)]
    rw [packTo_get B 0 i h, List.getElem?_replicate, if_pos h, e]
    exact congrArg some (show by8 true true true true true true true true = 255 by decide +kernel)
  · rw [List.getElem?_eq_none (by rw [packTo_length]; omega), List.getElem?_eq_none (by simp; omega)]

/-- A bit is cleared. -/
def clr (x : By) (r : Nat) : By := x &&& ~~~(128#8 >>> r)
theorem clr_0 : ∀ a b c d e f g h : Bool, clr (by8 a b c d e f g h) 0 = by8 false b c d e f g h := by decide +kernel
theorem clr_1 : ∀ a b c d e f g h : Bool, clr (by8 a b c d e f g h) 1 = by8 a false c d e f g h := by decide +kernel
theorem clr_2 : ∀ a b c d e f g h : Bool, clr (by8 a b c d e f g h) 2 = by8 a b false d e f g h := by decide +kernel
theorem clr_3 : ∀ a b c d e f g h : Bool, clr (by8 a b c d e f g h) 3 = by8 a b c false e f g h := by decide +kernel
theorem clr_4 : ∀ a b c d e f g h : Bool, clr (by8 a b c d e f g h) 4 = by8 a b c d false f g h := by decide +kernel
theorem clr_5 : ∀ a b c d e f g h : Bool, clr (by8 a b c d e f g h) 5 = by8 a b c d e false g h := by decide +kernel
theorem clr_6 : ∀ a b c d e f g h : Bool, clr (by8 a b c d e f g h) 6 = by8 a b c d e f false h := by decide +kernel
theorem clr_7 : ∀ a b c d e f g h : Bool, clr (by8 a b c d e f g h) 7 = by8 a b c d e f g false := by decide +kernel

theorem fTo_next {B : List Bool} {j : Nat} {b : Bool} (h : B[j]? = some b) (k : Nat) : fTo B (j + 1) k = if k = j then b else fTo B j k := by
  unfold fTo
  by_cases e : k = j
  · subst e; rw [if_pos (by omega), if_pos rfl, h]; rfl
  · rw [if_neg e]
    by_cases c : k < j
    · rw [if_pos (by omega), if_pos c]
    · rw [if_neg (by omega), if_neg c]
theorem fTo_self (B : List Bool) (j : Nat) : fTo B j j = true := by unfold fTo; rw [if_neg (by omega)]
theorem pk_true {B : List Bool} {j : Nat} (h : B[j]? = some true) (i : Nat) : pk (fTo B (j + 1)) i = pk (fTo B j) i := by
  have e : fTo B (j + 1) = fTo B j := by
    funext k
    rw [fTo_next h]
    by_cases c : k = j
    · subst c; rw [if_pos rfl, fTo_self]
    · rw [if_neg c]
  rw [e]
theorem pk_other {B : List Bool} {j : Nat} {b : Bool} (h : B[j]? = some b) (i : Nat) (hi : i ≠ j / 8) : pk (fTo B (j + 1)) i = pk (fTo B j) i := by
  unfold pk
  simp only [fTo_next h]
  simp only [show ¬ 8 * i = j by omega, show ¬ 8 * i + 1 = j by omega, show ¬ 8 * i + 2 = j by omega, show ¬ 8 * i + 3 = j by omega, show ¬ 8 * i + 4 = j by omega, show ¬ 8 * i + 5 = j by omega, show ¬ 8 * i + 6 = j by omega, show ¬ 8 * i + 7 = j by omega, if_false]
theorem pk_false {B : List Bool} {j : Nat} (h : B[j]? = some false) : pk (fTo B (j + 1)) (j / 8) = clr (pk (fTo B j) (j / 8)) (j % 8) := by
  obtain ⟨q, r, hr, rfl⟩ : ∃ q r, r < 8 ∧ j = 8 * q + r := ⟨j / 8, j % 8, by omega, by omega⟩
  rw [show (8 * q + r) / 8 = q by omega, show (8 * q + r) % 8 = r by omega]
  unfold pk
  simp only [fTo_next h]
  match r, hr with
  | 0, _ => rw [clr_0]; simp
  | 1, _ => rw [clr_1]; simp
  | 2, _ => rw [clr_2]; simp
  | 3, _ => rw [clr_3]; simp
  | 4, _ => rw [clr_4]; simp
  | 5, _ => rw [clr_5]; simp
  | 6, _ => rw [clr_6]; simp
  | 7, _ => rw [clr_7]; simp
theorem packTo_true {B : List Bool} {j : Nat} (h : B[j]? = some true) : packTo B (j + 1) = packTo B j := by
  unfold packTo
  rw [show pk (fTo B (j + 1)) = pk (fTo B j) from funext (pk_true h)]
theorem lt_packN {B : List Bool} {j : Nat} (h : j < B.length) : j / 8 < packN B := by unfold packN; omega
theorem packTo_false {B : List Bool} {j : Nat} (h : B[j]? = some false) : packTo B (j + 1) = (packTo B j).set (j / 8) (clr (gb (packTo B j) (j / 8)) (j % 8)) := by
  have hj : j < B.length := (List.getElem?_eq_some_iff.1 h).1
  have hp := lt_packN hj
  apply List.ext_getElem?
  intro i
  rw [List.getElem?_set]
  by_cases e : j / 8 = i
  · subst e
    rw [if_pos rfl, if_pos (by rw [packTo_length]; exact hp), packTo_get _ _ _ hp, packTo_gb _ _ _ hp, pk_false h]
  · rw [if_neg e]
    by_cases c : i < packN B
    · rw [packTo_get _ _ _ c, packTo_get _ _ _ c, pk_other h i (Ne.symm e)]
    · rw [List.getElem?_eq_none (by rw [packTo_length]; omega), List.getElem?_eq_none (by rw [packTo_length]; omega)]

/-- The bits of bytes. -/
def bitsB (b : List By) : List Bool := b.flatMap fun x => bitsN 8 x.toNat
theorem bitsB_cons (x : By) (b : List By) : bitsB (x :: b) = bitsN 8 x.toNat ++ bitsB b := by simp [bitsB]
theorem bitsB_length (b : List By) : (bitsB b).length = 8 * b.length := by
  induction b with
  | nil => rfl
  | cons x b ih => rw [bitsB_cons, List.length_append, bitsN_length, ih, List.length_cons]; omega
theorem bitsB_get (b : List By) (k : Nat) (h : k < 8 * b.length) : (bitsB b)[k]? = (bitsN 8 (gb b (k / 8)).toNat)[k % 8]? := by
  induction b generalizing k with
  | nil => simp at h
  | cons x b ih =>
    rw [bitsB_cons]
    by_cases c : k < 8
    · rw [List.getElem?_append_left (by rw [bitsN_length]; exact c), show k / 8 = 0 by omega, show k % 8 = k by omega]
      rfl
    · rw [List.getElem?_append_right (by rw [bitsN_length]; omega), bitsN_length, ih (k - 8) (by rw [List.length_cons] at h; omega)]
      rw [show k / 8 = (k - 8) / 8 + 1 by omega, show (k - 8) % 8 = k % 8 by omega]
      rfl
theorem bitsB_inj {a b : List By} (h : bitsB a = bitsB b) : a = b := by
  induction a generalizing b with
  | nil =>
    cases b with
    | nil => rfl
    | cons y b =>
      have := congrArg List.length h
      rw [bitsB_length, bitsB_length] at this
      simp at this
  | cons x a ih =>
    cases b with
    | nil =>
      have := congrArg List.length h
      rw [bitsB_length, bitsB_length] at this
      simp at this
    | cons y b =>
      rw [bitsB_cons, bitsB_cons] at h
      obtain ⟨h1, h2⟩ := List.append_inj h (by rw [bitsN_length, bitsN_length])
      rw [ih h2, ← unb_bits x, h1, unb_bits]
theorem pk_get (f : Nat → Bool) (j r : Nat) (h : r < 8) : (bitsN 8 (pk f j).toNat)[r]? = some (f (8 * j + r)) := by
  unfold pk
  rw [bits_by8]
  match r, h with
  | 0, _ => rfl
  | 1, _ => rfl
  | 2, _ => rfl
  | 3, _ => rfl
  | 4, _ => rfl
  | 5, _ => rfl
  | 6, _ => rfl
  | 7, _ => rfl
/-- The bits of what was put: they, and ones. -/
theorem bits_pack (B : List Bool) : bitsB (packL B) = B ++ List.replicate (8 * packN B - B.length) true := by
  have hp : B.length ≤ 8 * packN B := by unfold packN; omega
  apply List.ext_getElem?
  intro k
  by_cases h : k < 8 * packN B
  · have hk : k / 8 < packN B := by omega
    rw [bitsB_get _ _ (by unfold packL; rw [packTo_length]; exact h)]
    unfold packL
    rw [packTo_gb _ _ _ hk, pk_get _ _ _ (by omega), show 8 * (k / 8) + k % 8 = k by omega]
    unfold fTo
    by_cases c : k < B.length
    · rw [if_pos c, List.getElem?_append_left c, List.getElem?_eq_getElem c]
      rfl
    · rw [if_neg c, List.getElem?_append_right (by omega), List.getElem?_replicate, if_pos (by omega)]
  · rw [List.getElem?_eq_none (by rw [bitsB_length]; unfold packL; rw [packTo_length]; omega), List.getElem?_eq_none (by rw [List.length_append, List.length_replicate]; omega)]
theorem bitsN_ones (r : Nat) : bitsN r (2 ^ r - 1) = List.replicate r true := by
  induction r with
  | zero => rfl
  | succ r ih =>
    have e : 2 ^ (r + 1) - 1 = 2 * (2 ^ r - 1) + true.toNat := by
      have : 0 < 2 ^ r := Nat.pow_pos (by decide)
      rw [Nat.pow_succ, Bool.toNat_true]
      omega
    rw [e, bitsN_snoc, ih, List.replicate_succ']
theorem run_ones (t : List By) (r : Nat) (h : r < 8) : runG (some (t, 0, 0)) (List.replicate r true) = some (t, r, 2 ^ r - 1) := by
  induction r with
  | zero => rfl
  | succ r ih =>
    rw [List.replicate_succ', runG_append, ih (by omega)]
    have e : 2 * (2 ^ r - 1) + true.toNat = 2 ^ (r + 1) - 1 := by
      have : 0 < 2 ^ r := Nat.pow_pos (by decide)
      rw [Nat.pow_succ, Bool.toNat_true]
      omega
    show stepG (t, r, 2 ^ r - 1) true = _
    unfold stepG
    simp only
    rw [e]
    have h1 := ones_ok h
    rw [(sym_none (n := r + 1) (by omega) (by unfold lim at h1; omega)).2 h1]

/-- What Get answers: the text; or none. -/
def getT (b : List By) : Option (List By) := match runG (some ([], 0, 0)) (bitsB b) with
  | none => none
  | some (t, n, v) => if n < 8 ∧ v = 2 ^ n - 1 then some t else none
theorem get_put (s : List By) : getT (packL (txt s)) = some s := by
  unfold getT
  rw [bits_pack, runG_append, run_txt, run_ones _ _ (by unfold packN; omega)]
  simp only [List.nil_append]
  rw [if_pos ⟨by unfold packN; omega, trivial⟩]
theorem put_get {b s : List By} (h : getT b = some s) : packL (txt s) = b := by
  unfold getT at h
  split at h
  · cases h
  · rename_i t n v hr
    split at h
    · rename_i hc
      injection h with h
      subst h
      have hb := run_bits (gfine_zero []) hr
      simp only at hb
      have e0 : txt [] = [] := rfl
      rw [e0, show bitsN 0 0 = [] from rfl, List.nil_append, List.nil_append, hc.2, bitsN_ones] at hb
      apply bitsB_inj
      rw [bits_pack, ← hb]
      have hl := congrArg List.length hb
      rw [List.length_append, List.length_replicate, bitsB_length] at hl
      have : 8 * packN (txt t) - (txt t).length = n := by unfold packN; omega
      rw [this]
    · cases h
end Hf
end Go.Proofs.YtiecpkkklefjdaaGreatDoor
