/-
  Bits as bytes, one bit behind the other: no program in sight.
-/
import Derived.Test.YtiecpkkklefjdaaGreatDoorGuHfPack
namespace Go.Proofs.YtiecpkkklefjdaaGreatDoor
open Go
namespace Hf

/-- Room for one bit more. -/
def padL (B : List Bool) : List By := if B.length % 8 = 0 then packL B ++ [255] else packL B
theorem fTo_snoc (B : List Bool) (x : Bool) : fTo (B ++ [x]) B.length = fTo B B.length := by
  funext k
  unfold fTo
  by_cases c : k < B.length
  · rw [if_pos c, if_pos c, List.getElem?_append_left c]
  · rw [if_neg c, if_neg c]
theorem pack_pad (B : List Bool) (x : Bool) : packTo (B ++ [x]) B.length = padL B := by
  have hl : (B ++ [x]).length = B.length + 1 := by simp
  unfold padL packL
  by_cases c : B.length % 8 = 0
  · rw [if_pos c]
    apply List.ext_getElem?
    intro i
    rcases Nat.lt_trichotomy i (packN B) with h | h | h
    · rw [packTo_get _ _ _ (by unfold packN at h ⊢; omega), List.getElem?_append_left (by rw [packTo_length]; exact h), packTo_get _ _ _ h, fTo_snoc]
    · rw [packTo_get _ _ _ (by unfold packN at h ⊢; omega), List.getElem?_append_right (by rw [packTo_length]; omega), packTo_length, h, Nat.sub_self]
      have e : ∀ q, fTo (B ++ [x]) B.length (8 * packN B + q) = true := fun q => by unfold fTo; rw [if_neg (by unfold packN; omega)]
      refine congrArg some ?_
      unfold pk
      rw [e, e, e, e, e, e, e, show fTo (B ++ [x]) B.length (8 * packN B) = true from e 0]
      decide +kernel
    · rw [List.getElem?_eq_none (by rw [packTo_length]; unfold packN at h ⊢; omega), List.getElem?_eq_none (by rw [List.length_append, packTo_length]; simp; omega)]
  · rw [if_neg c]
    apply List.ext_getElem?
    intro i
    by_cases h : i < packN B
    · rw [packTo_get _ _ _ (by unfold packN at h ⊢; omega), packTo_get _ _ _ h, fTo_snoc]
    · rw [List.getElem?_eq_none (by rw [packTo_length]; unfold packN at h ⊢; omega), List.getElem?_eq_none (by rw [packTo_length]; omega)]
theorem pack_true (B : List Bool) : packL (B ++ [true]) = padL B := by
  unfold packL
  rw [show (B ++ [true]).length = B.length + 1 by simp, packTo_true (by simp), pack_pad]
theorem pack_false (B : List Bool) : packL (B ++ [false]) = (padL B).set (B.length / 8) (clr (gb (padL B) (B.length / 8)) (B.length % 8)) := by
  unfold packL
  rw [show (B ++ [false]).length = B.length + 1 by simp, packTo_false (by simp), pack_pad]
theorem padL_length (B : List Bool) : (padL B).length = B.length / 8 + 1 := by
  rw [← pack_pad B true, packTo_length]
  unfold packN
  simp
  omega
theorem sub_0 : ∀ b c d e f g h : Bool, (clr (by8 true b c d e f g h) 0).toNat + 2 ^ (7 - 0) = (by8 true b c d e f g h).toNat := by decide +kernel
theorem sub_1 : ∀ a c d e f g h : Bool, (clr (by8 a true c d e f g h) 1).toNat + 2 ^ (7 - 1) = (by8 a true c d e f g h).toNat := by decide +kernel
theorem sub_2 : ∀ a b d e f g h : Bool, (clr (by8 a b true d e f g h) 2).toNat + 2 ^ (7 - 2) = (by8 a b true d e f g h).toNat := by decide +kernel
theorem sub_3 : ∀ a b c e f g h : Bool, (clr (by8 a b c true e f g h) 3).toNat + 2 ^ (7 - 3) = (by8 a b c true e f g h).toNat := by decide +kernel
theorem sub_4 : ∀ a b c d f g h : Bool, (clr (by8 a b c d true f g h) 4).toNat + 2 ^ (7 - 4) = (by8 a b c d true f g h).toNat := by decide +kernel
theorem sub_5 : ∀ a b c d e g h : Bool, (clr (by8 a b c d e true g h) 5).toNat + 2 ^ (7 - 5) = (by8 a b c d e true g h).toNat := by decide +kernel
theorem sub_6 : ∀ a b c d e f h : Bool, (clr (by8 a b c d e f true h) 6).toNat + 2 ^ (7 - 6) = (by8 a b c d e f true h).toNat := by decide +kernel
theorem sub_7 : ∀ a b c d e f g : Bool, (clr (by8 a b c d e f g true) 7).toNat + 2 ^ (7 - 7) = (by8 a b c d e f g true).toNat := by decide +kernel
theorem clr_sub (f : Nat → Bool) (i r : Nat) (hr : r < 8) (h : f (8 * i + r) = true) : (clr (pk f i) r).toNat + 2 ^ (7 - r) = (pk f i).toNat := by
  unfold pk
  match r, hr with
  | 0, _ => rw [show f (8 * i) = true from h]; exact sub_0 _ _ _ _ _ _ _
  | 1, _ => rw [h]; exact sub_1 _ _ _ _ _ _ _
  | 2, _ => rw [h]; exact sub_2 _ _ _ _ _ _ _
  | 3, _ => rw [h]; exact sub_3 _ _ _ _ _ _ _
  | 4, _ => rw [h]; exact sub_4 _ _ _ _ _ _ _
  | 5, _ => rw [h]; exact sub_5 _ _ _ _ _ _ _
  | 6, _ => rw [h]; exact sub_6 _ _ _ _ _ _ _
  | 7, _ => rw [h]; exact sub_7 _ _ _ _ _ _ _
theorem pad_sub (B : List Bool) : (clr (gb (padL B) (B.length / 8)) (B.length % 8)).toNat + 2 ^ (7 - B.length % 8) = (gb (padL B) (B.length / 8)).toNat := by
  rw [← pack_pad B true, packTo_gb _ _ _ (by unfold packN; simp; omega)]
  apply clr_sub
  · omega
  · unfold fTo
    rw [if_neg (by omega)]
end Hf
end Go.Proofs.YtiecpkkklefjdaaGreatDoor
