/-
  Out of KyVec, KyLab.
-/
import Derived.Test.YtbheoldakmcppaaGreatDoorGs20
import Derived.Test.YtbheoldakmcppaaGreatDoorGs2

/-! Keys of a connection, on lists, and the bytes that the document fixes: no program in sight. -/
namespace Go.Proofs.YtbheoldakmcppaaGreatDoor
open Go

/-! ### Texts in hexadecimal -/
def digB (c : By) : By := if 97 ≤ v8 c then c - 97 + 10 else c - 48
def pairB (b : List By) (k : Nat) : By := digB (gb b (2 * k)) * 16#8 + digB (gb b (2 * k + 1))
def unhexTo (b : List By) (k : Nat) : List By := (List.range k).map (pairB b)
theorem unhexTo_succ (b : List By) (k : Nat) : unhexTo b (k + 1) = unhexTo b k ++ [pairB b k] := by unfold unhexTo; rw [List.range_succ]; simp
def unhexL (b : List By) : List By := unhexTo b (b.length / 2)

/-! ### Keys -/
def keyT : ByteArray := { data := #[113, 117, 105, 99, 32, 107, 101, 121] }
def ivT : ByteArray := { data := #[113, 117, 105, 99, 32, 105, 118] }
def hpT : ByteArray := { data := #[113, 117, 105, 99, 32, 104, 112] }
/-- So many bytes of a secret by a name. -/
def lab (k : List By) (s : ByteArray) (n : Nat) : List By := expandL (keyL k) (infoL (bOf s) [] n) n
/-! ### Nonces -/
def nb8 (n i : Nat) : By := BitVec.ofNat 8 (n / 256 ^ i)
def nonceTo (iv : List By) (n t : Nat) : List By := (List.range 12).map fun j => if 12 ≤ j + t then gb iv j ^^^ nb8 n (11 - j) else gb iv j
theorem nonceTo_length (iv : List By) (n t : Nat) : (nonceTo iv n t).length = 12 := by simp [nonceTo]
theorem nonceTo_get (iv : List By) (n t j : Nat) (h : j < 12) : gb (nonceTo iv n t) j = if 12 ≤ j + t then gb iv j ^^^ nb8 n (11 - j) else gb iv j := by
  simp [nonceTo, gb, h]
theorem nonceTo_zero (iv : List By) (n : Nat) (h : iv.length = 12) : nonceTo iv n 0 = iv := by
  apply List.ext_getElem
  · rw [nonceTo_length, h]
  · intro j h1 h2
    have hj : j < 12 := by rw [h] at h2; exact h2
    simp only [nonceTo, List.getElem_map, List.getElem_range, Nat.add_zero]
    rw [if_neg (by omega)]
    simp [gb, h2]
theorem nonceTo_set (iv : List By) (n t : Nat) (h : t < 12) : (nonceTo iv n t).set (11 - t) (gb iv (11 - t) ^^^ nb8 n t) = nonceTo iv n (t + 1) := by
  apply List.ext_getElem
  · rw [List.length_set, nonceTo_length, nonceTo_length]
  · intro j h1 h2
    have hj : j < 12 := by rw [nonceTo_length] at h2; exact h2
    rw [List.getElem_set]
    simp only [nonceTo, List.getElem_map, List.getElem_range]
    by_cases e : 11 - t = j
    · rw [if_pos e, if_pos (by omega), ← e, show 11 - (11 - t) = t by omega]
    · rw [if_neg e]
      by_cases e2 : 12 ≤ j + t
      · rw [if_pos e2, if_pos (by omega)]
      · rw [if_neg e2, if_neg (by omega)]
def nonceL (iv : List By) (n : Nat) : List By := nonceTo iv n 8
theorem nonceL_length (iv : List By) (n : Nat) : (nonceL iv n).length = 12 := nonceTo_length _ _ _
/-! ### Masks -/
def countL (s : List By) : Wd := wordLE s 0
def maskL (key sample : List By) : List By := (blockL key (countL sample) (sample.drop 4)).take 5

/-! ### The chapter's examples -/
def knownT : ByteArray := { data := #[57, 97, 99, 51, 49, 50, 97, 55, 102, 56, 55, 55, 52, 54, 56, 101, 98, 101, 54, 57, 52, 50, 50, 55, 52, 56, 97, 100, 48, 48, 97, 49, 53, 52, 52, 51, 102, 49, 56, 50, 48, 51, 97, 48, 55, 100, 54, 48, 54, 48, 102, 54, 56, 56, 102, 51, 48, 102, 50, 49, 54, 51, 50, 98] }
def knownV : List By := [154, 195, 18, 167, 248, 119, 70, 142, 190, 105, 66, 39, 72, 173, 0, 161, 84, 67, 241, 130, 3, 160, 125, 96, 96, 246, 136, 243, 15, 33, 99, 43]
def sampV : List By := [94, 92, 213, 92, 65, 246, 144, 128, 87, 93, 121, 153, 194, 90, 91, 251]
def keyV12 : List By := [198, 217, 143, 243, 68, 28, 63, 225, 178, 24, 32, 148, 246, 156, 170, 46, 212, 183, 22, 182, 84, 136, 150, 10, 122, 152, 73, 121, 251, 35, 225, 200]
def ivV12 : List By := [224, 69, 155, 52, 116, 189, 208, 228, 74, 65, 193, 68]
def hpV12 : List By := [37, 162, 130, 185, 232, 47, 6, 242, 31, 72, 137, 23, 164, 252, 143, 27, 115, 87, 54, 133, 96, 133, 151, 208, 239, 203, 7, 107, 10, 183, 167, 164]
def nonV12 : List By := [224, 69, 155, 52, 116, 189, 208, 228, 109, 65, 126, 176]
def maskV12 : List By := [174, 254, 254, 125, 3]
theorem hex_known : unhexL (bOf knownT) = knownV := by decide +kernel
set_option maxRecDepth 100000 in
theorem vec_key12 : lab knownV keyT 32 = keyV12 := by decide +kernel
set_option maxRecDepth 100000 in
theorem vec_iv12 : lab knownV ivT 12 = ivV12 := by decide +kernel
set_option maxRecDepth 100000 in
theorem vec_hp12 : lab knownV hpT 32 = hpV12 := by decide +kernel
theorem vec_non12 : nonceL ivV12 654360564 = nonV12 := by decide +kernel
set_option maxRecDepth 100000 in
theorem vec_mask12 : maskL hpV12 sampV = maskV12 := by
  unfold maskL
  rw [blockL_S]
  decide +kernel
end Go.Proofs.YtbheoldakmcppaaGreatDoor

/-! What hkdf.Label answers of a key and a name. -/
namespace Go.Proofs.YtbheoldakmcppaaGreatDoor
open Go Go.RowKit

def nilK : SL := ⟨none, 0, 0, 0, 0, []⟩
theorem nilK_ok (w : World) : nilK.Ok w := ⟨rfl, Nat.le_refl _, fun _ => ⟨rfl, rfl⟩, fun h => absurd h (Nat.lt_irrefl _), fun h => absurd h (Nat.lt_irrefl _), fun _ h => absurd h (Nat.not_lt_zero _)⟩

theorem lab_any (k : SL) (s : ByteArray) (n : Nat) (w : World) (hk : k.Ok w) (h1 : s.size ≤ 249) (h3 : n ≤ 8160) (h4 : k.len ≤ 1048576) :
    Calls Tryz.prog 129 #[.slice k.a k.len k.cap, .string s, .slice none 0 0, .int .i64 (n : Int)] w fun e w' => ∃ g, e = .returned (.tuple #[.slice (some ⟨g, 0, none⟩) n n, .int .i64 0]) ∧ w'.ownsRow w.heap.size 5 1 (.slice (some ⟨g, 0, none⟩) n n) n (vb (lab k.b s n)) ∧ Below w.heap.size w w' :=
  label_ok k nilK s n w hk (nilK_ok w) h1 (by decide) h3 h4
end Go.Proofs.YtbheoldakmcppaaGreatDoor
