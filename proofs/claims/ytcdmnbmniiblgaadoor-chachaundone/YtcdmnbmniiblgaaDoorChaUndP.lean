/-
  The rounds, undone: lists of words, and the law's quarter round.
-/
import Derived.Test.YtcdmnbmniiblgaaDoorChaSt
import Derived.Test.YtcdmnbmniiblgaaDoorChaUndo
namespace Go.Proofs.YtcdmnbmniiblgaaDoor
open Go Go.RowKit

section
variable {s : List Wd} {a b c d : Nat} (h : Four s.length a b c d) (A B C D : Wd)
include h
theorem stU_bc (n : Nat) : stepU (st s a b c d A B C D) b c n = st s a b c d A (xr (rl B n) C) C D := by unfold stepU; rw [st_b h, st_c h, set_b h]
theorem stU_da (n : Nat) : stepU (st s a b c d A B C D) d a n = st s a b c d A B C (xr (rl D n) A) := by unfold stepU; rw [st_d h, st_a h, set_d]
theorem stS_cd : stepS (st s a b c d A B C D) c d = st s a b c d A B (sb C D) D := by unfold stepS; rw [st_c h, st_d h, set_c h]
theorem stS_ab : stepS (st s a b c d A B C D) a b = st s a b c d (sb A B) B C D := by unfold stepS; rw [st_a h, st_b h, set_a h]
theorem und_st : stepS (stepU (stepS (stepU (stepS (stepU (stepS (stepU (st s a b c d (qA A B C D) (qB A B C D) (qC A B C D) (qD A B C D)) b c 25) c d) d a 24) a b) b c 20) c d) d a 16) a b = st s a b c d A B C D := by
  have e1 : xr (rl (qB A B C D) 25) (qC A B C D) = qb1 A B C D := by
    have := rl_rl (xr (qb1 A B C D) (qC A B C D)) 7 (by omega)
    rw [show qB A B C D = rl (xr (qb1 A B C D) (qC A B C D)) 7 from rfl, this, xr_xr]
  have e2 : sb (qC A B C D) (qD A B C D) = qc1 A B C D := sb_ad _ _
  have e3 : xr (rl (qD A B C D) 24) (qA A B C D) = qd1 A B D := by
    have := rl_rl (xr (qd1 A B D) (qA A B C D)) 8 (by omega)
    rw [show qD A B C D = rl (xr (qd1 A B D) (qA A B C D)) 8 from rfl, this, xr_xr]
  have e4 : sb (qA A B C D) (qb1 A B C D) = qa1 A B := sb_ad _ _
  have e5 : xr (rl (qb1 A B C D) 20) (qc1 A B C D) = B := by
    have := rl_rl (xr B (qc1 A B C D)) 12 (by omega)
    rw [show qb1 A B C D = rl (xr B (qc1 A B C D)) 12 from rfl, this, xr_xr]
  have e6 : sb (qc1 A B C D) (qd1 A B D) = C := sb_ad _ _
  have e7 : xr (rl (qd1 A B D) 16) (qa1 A B) = D := by
    have := rl_rl (xr D (qa1 A B)) 16 (by omega)
    rw [show qd1 A B D = rl (xr D (qa1 A B)) 16 from rfl, this, xr_xr]
  have e8 : sb (qa1 A B) B = A := sb_ad _ _
  rw [stU_bc h, e1, stS_cd h, e2, stU_da h, e3, stS_ab h, e4, stU_bc h, e5, stS_cd h, e6, stU_da h, e7, stS_ab h, e8]
end
theorem undQ (k : Nat) (hk : k < 8) (a b c d : Int) (ha : a = (qi k 0 : Nat)) (hb : b = (qi k 1 : Nat)) (hc : c = (qi k 2 : Nat)) (hd : d = (qi k 3 : Nat)) (g : Nat) (t : TypeId) (s : List Wd) (hs : s.length = 16) (w : World) (hr : Row w g t (ws (twoTo s (k + 1)))) :
    Calls Tryd.prog 13 #[.pointer (some ⟨g, 0, none⟩), .int .i64 a, .int .i64 b, .int .i64 c, .int .i64 d] w fun e w' => e = .returned (.tuple #[]) ∧ Row w' g t (ws (twoTo s k)) ∧ Below g w w' := by
  subst ha hb hc hd
  have hq := fun j hj => qi_lt k hk j hj
  have hl : (twoTo s k).length = 16 := by rw [twoTo_length]; exact hs
  have hl1 : (twoTo s (k + 1)).length = 16 := by rw [twoTo_length]; exact hs
  refine (lawUndo_any g (qi k 0) (qi k 1) (qi k 2) (qi k 3) t (twoTo s (k + 1)) hl1 (hq 0 (by omega)) (hq 1 (by omega)) (hq 2 (by omega)) (hq 3 (by omega)) w hr).mono ?_
  rintro e w' ⟨rfl, h1, h2⟩
  refine ⟨rfl, ?_, h2 g (Nat.le_refl _)⟩
  have h : Four (twoTo s k).length (qi k 0) (qi k 1) (qi k 2) (qi k 3) := by rw [hl]; exact qi_four k hk
  have e := und_st h (gw (twoTo s k) (qi k 0)) (gw (twoTo s k) (qi k 1)) (gw (twoTo s k) (qi k 2)) (gw (twoTo s k) (qi k 3))
  rw [st_self h] at e
  rw [twoTo_succ] at h1
  rw [show quart (twoTo s k) (qi k 0) (qi k 1) (qi k 2) (qi k 3) = st (twoTo s k) (qi k 0) (qi k 1) (qi k 2) (qi k 3) (qA (gw (twoTo s k) (qi k 0)) (gw (twoTo s k) (qi k 1)) (gw (twoTo s k) (qi k 2)) (gw (twoTo s k) (qi k 3))) (qB (gw (twoTo s k) (qi k 0)) (gw (twoTo s k) (qi k 1)) (gw (twoTo s k) (qi k 2)) (gw (twoTo s k) (qi k 3))) (qC (gw (twoTo s k) (qi k 0)) (gw (twoTo s k) (qi k 1)) (gw (twoTo s k) (qi k 2)) (gw (twoTo s k) (qi k 3))) (qD (gw (twoTo s k) (qi k 0)) (gw (twoTo s k) (qi k 1)) (gw (twoTo s k) (qi k 2)) (gw (twoTo s k) (qi k 3))) from rfl, e] at h1
  exact h1

/-- A word's bytes are the word. -/
theorem le_word (x : Wd) : oo (oo (oo (ex (loOf x 0)) (sl (ex (loOf x 1)) 8)) (sl (ex (loOf x 2)) 16)) (sl (ex (loOf x 3)) 24) = x := by
  apply BitVec.eq_of_getLsbD_eq
  intro i hi
  unfold oo sl ex loOf sr
  simp only [BitVec.getLsbD_or, BitVec.getLsbD_shiftLeft, BitVec.getLsbD_setWidth, BitVec.getLsbD_ushiftRight]
  rcases Nat.lt_or_ge i 8 with h1 | h1
  · simp [h1, show i < 16 by omega, show i < 24 by omega, hi]
  · rcases Nat.lt_or_ge i 16 with h2 | h2
    · simp [show ¬ i < 8 by omega, h2, show i < 24 by omega, hi, show i - 8 < 8 by omega, show i - 8 < 32 by omega, show 8 + (i - 8) = i by omega]
    · rcases Nat.lt_or_ge i 24 with h3 | h3
      · simp [show ¬ i < 8 by omega, show ¬ i < 16 by omega, h3, hi, show ¬ i - 8 < 8 by omega, show i - 16 < 8 by omega, show i - 16 < 32 by omega, show 16 + (i - 16) = i by omega]
      · simp [show ¬ i < 8 by omega, show ¬ i < 16 by omega, show ¬ i < 24 by omega, hi, show ¬ i - 8 < 8 by omega, show ¬ i - 16 < 8 by omega, show i - 24 < 8 by omega, show i - 24 < 32 by omega, show 24 + (i - 24) = i by omega]
theorem wordLE_bytesL (s : List Wd) (i : Nat) (h : i < 16) : wordLE (bytesL s) i = gw s i := by
  have e : ∀ j, j < 4 → gb (bytesL s) (4 * i + j) = loOf (gw s i) j := fun j hj => by
    unfold gb
    rw [bytesL_get s (4 * i + j) (by omega), show (4 * i + j) / 4 = i by omega, show (4 * i + j) % 4 = j by omega]
    rfl
  unfold wordLE
  have e0 := e 0 (by omega)
  rw [Nat.add_zero] at e0
  rw [e0, e 1 (by omega), e 2 (by omega), e 3 (by omega), le_word]
end Go.Proofs.YtcdmnbmniiblgaaDoor
