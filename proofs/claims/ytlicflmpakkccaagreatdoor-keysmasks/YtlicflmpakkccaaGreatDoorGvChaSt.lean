/-
  Four words of a state, in their place.
-/
import Derived.Test.YtlicflmpakkccaaGreatDoorGvChaQuart
import Derived.Test.YtlicflmpakkccaaGreatDoorGv14
namespace Go.Proofs.YtlicflmpakkccaaGreatDoor
open Go

theorem gw_set (s : List Wd) (i j : Nat) (x : Wd) (hi : i < s.length) : gw (s.set i x) j = if i = j then x else gw s j := by
  unfold gw
  by_cases hij : i = j
  · subst hij; simp [hi]
  · simp [hij]
/-- Four places, none twice. -/
structure Four (n a b c d : Nat) : Prop where
  ha : a < n
  hb : b < n
  hc : c < n
  hd : d < n
  ab : a ≠ b
  ac : a ≠ c
  ad : a ≠ d
  bc : b ≠ c
  bd : b ≠ d
  cd : c ≠ d
theorem qi_four (k : Nat) (hk : k < 8) : Four 16 (qi k 0) (qi k 1) (qi k 2) (qi k 3) := by
  match k, hk with
  | 0, _ => constructor <;> decide
  | 1, _ => constructor <;> decide
  | 2, _ => constructor <;> decide
  | 3, _ => constructor <;> decide
  | 4, _ => constructor <;> decide
  | 5, _ => constructor <;> decide
  | 6, _ => constructor <;> decide
  | 7, _ => constructor <;> decide

def st (s : List Wd) (a b c d : Nat) (A B C D : Wd) : List Wd := (((s.set a A).set b B).set c C).set d D
theorem set_d (s : List Wd) (a b c d : Nat) (A B C D X : Wd) : (st s a b c d A B C D).set d X = st s a b c d A B C X := by
  unfold st
  rw [List.set_set]
section
variable {s : List Wd} {a b c d : Nat} (h : Four s.length a b c d) (A B C D X : Wd)
include h
theorem st_a : gw (st s a b c d A B C D) a = A := by
  unfold st
  rw [gw_set _ _ _ _ (by simp; exact h.hd), if_neg h.ad.symm, gw_set _ _ _ _ (by simp; exact h.hc), if_neg h.ac.symm, gw_set _ _ _ _ (by simp; exact h.hb), if_neg h.ab.symm, gw_set _ _ _ _ h.ha, if_pos rfl]
theorem st_b : gw (st s a b c d A B C D) b = B := by
  unfold st
  rw [gw_set _ _ _ _ (by simp; exact h.hd), if_neg h.bd.symm, gw_set _ _ _ _ (by simp; exact h.hc), if_neg h.bc.symm, gw_set _ _ _ _ (by simp; exact h.hb), if_pos rfl]
theorem st_c : gw (st s a b c d A B C D) c = C := by
  unfold st
  rw [gw_set _ _ _ _ (by simp; exact h.hd), if_neg h.cd.symm, gw_set _ _ _ _ (by simp; exact h.hc), if_pos rfl]
theorem st_d : gw (st s a b c d A B C D) d = D := by
  unfold st
  rw [gw_set _ _ _ _ (by simp; exact h.hd), if_pos rfl]
theorem set_a : (st s a b c d A B C D).set a X = st s a b c d X B C D := by
  unfold st
  rw [List.set_comm _ _ h.ad.symm, List.set_comm _ _ h.ac.symm, List.set_comm _ _ h.ab.symm, List.set_set]
theorem set_b : (st s a b c d A B C D).set b X = st s a b c d A X C D := by
  unfold st
  rw [List.set_comm _ _ h.bd.symm, List.set_comm _ _ h.bc.symm, List.set_set]
theorem set_c : (st s a b c d A B C D).set c X = st s a b c d A B X D := by
  unfold st
  rw [List.set_comm _ _ h.cd.symm, List.set_set]
theorem st_self : st s a b c d (gw s a) (gw s b) (gw s c) (gw s d) = s := by
  have e : ∀ i, i < s.length → s.set i (gw s i) = s := fun i hi => by
    have : gw s i = s[i] := by unfold gw; rw [List.getElem?_eq_getElem hi]; rfl
    rw [this]
    exact List.set_getElem_self hi
  unfold st
  rw [e a h.ha, e b h.hb, e c h.hc, e d h.hd]
theorem stA_ab : stepA (st s a b c d A B C D) a b = st s a b c d (ad A B) B C D := by unfold stepA; rw [st_a h, st_b h, set_a h]
theorem stA_cd : stepA (st s a b c d A B C D) c d = st s a b c d A B (ad C D) D := by unfold stepA; rw [st_c h, st_d h, set_c h]
theorem stX_da (n : Nat) : stepX (st s a b c d A B C D) d a n = st s a b c d A B C (rl (xr D A) n) := by unfold stepX; rw [st_d h, st_a h, set_d]
theorem stX_bc (n : Nat) : stepX (st s a b c d A B C D) b c n = st s a b c d A (rl (xr B C) n) C D := by unfold stepX; rw [st_b h, st_c h, set_b h]
theorem steps_st : stepX (stepA (stepX (stepA (stepX (stepA (stepX (stepA (st s a b c d A B C D) a b) d a 16) c d) b c 12) a b) d a 8) c d) b c 7 = st s a b c d (qA A B C D) (qB A B C D) (qC A B C D) (qD A B C D) := by
  rw [stA_ab h, stX_da h, stA_cd h, stX_bc h, stA_ab h, stX_da h, stA_cd h, stX_bc h]
  rfl
end
theorem steps_quart (s : List Wd) (hs : s.length = 16) (k : Nat) (hk : k < 8) :
    stepX (stepA (stepX (stepA (stepX (stepA (stepX (stepA s (qi k 0) (qi k 1)) (qi k 3) (qi k 0) 16) (qi k 2) (qi k 3)) (qi k 1) (qi k 2) 12) (qi k 0) (qi k 1)) (qi k 3) (qi k 0) 8) (qi k 2) (qi k 3)) (qi k 1) (qi k 2) 7 = quart s (qi k 0) (qi k 1) (qi k 2) (qi k 3) := by
  have h : Four s.length (qi k 0) (qi k 1) (qi k 2) (qi k 3) := by rw [hs]; exact qi_four k hk
  have e := steps_st h (gw s (qi k 0)) (gw s (qi k 1)) (gw s (qi k 2)) (gw s (qi k 3))
  rw [st_self h] at e
  exact e

/-- Turned, and turned back. -/
theorem rl_bit (x : Wd) (n i : Nat) (h1 : n ≤ 32) (hi : i < 32) : (rl x n).getLsbD i = if i < n then x.getLsbD (32 - n + i) else x.getLsbD (i - n) := by
  unfold rl oo sl sr
  rw [BitVec.getLsbD_or, BitVec.getLsbD_shiftLeft, BitVec.getLsbD_ushiftRight]
  by_cases h : i < n
  · simp [h, hi]
  · have : x.getLsbD (32 - n + i) = false := BitVec.getLsbD_of_ge _ _ (by omega)
    simp [h, hi, this]
theorem rl_rl (x : Wd) (n : Nat) (h1 : n ≤ 32) : rl (rl x n) (32 - n) = x := by
  apply BitVec.eq_of_getLsbD_eq
  intro i hi
  rw [rl_bit _ _ _ (by omega) hi]
  by_cases h : i < 32 - n
  · rw [if_pos h, rl_bit _ _ _ h1 (by omega), if_neg (by omega)]
    congr 1
    omega
  · rw [if_neg h, rl_bit _ _ _ h1 (by omega), if_pos (by omega)]
    congr 1
    omega
theorem xr_xr (x y : Wd) : xr (xr x y) y = x := by
  unfold xr
  rw [BitVec.xor_assoc, BitVec.xor_self, BitVec.xor_zero]
theorem sb_ad (x y : Wd) : sb (ad x y) y = x := by
  unfold sb ad
  exact BitVec.add_sub_cancel _ _
end Go.Proofs.YtlicflmpakkccaaGreatDoor
