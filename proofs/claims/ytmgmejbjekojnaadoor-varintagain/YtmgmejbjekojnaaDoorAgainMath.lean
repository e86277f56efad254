/-
  Plain arithmetic: what is got may be put again, in as many bytes at most.
-/
import Derived.Test.YtmgmejbjekojnaaDoorPutMath
import Derived.Test.YtmgmejbjekojnaaDoorPrefMath
namespace Go.Proofs.YtmgmejbjekojnaaDoor
open Go.RowKit

theorem putL_le (n : Int) (K : Nat) (h0 : 0 ≤ n) (h : (K = 1 ∧ n < 64) ∨ (K = 2 ∧ n < 16384) ∨ (K = 4 ∧ n < 1073741824) ∨ (K = 8 ∧ n < 4611686018427387904)) : n < 4611686018427387904 ∧ (putL n).length ≤ K := by
  have h1 : n < 4611686018427387904 := by omega
  refine ⟨h1, ?_⟩
  rcases putL_cases n h0 h1 with ⟨a, e⟩ | ⟨a, a2, e⟩ | ⟨a, a2, e⟩ | ⟨a, e⟩ <;> rw [e] <;> simp <;> omega

theorem getR_again (zs : List Int) (hb : ∀ j : Nat, 0 ≤ zs[j]?.getD 0 ∧ zs[j]?.getD 0 ≤ 255) : getR zs = (0, 0, 4) ∨
    ∃ n K, getR zs = (n, K, 0) ∧ 0 ≤ n ∧ n < 4611686018427387904 ∧ (putL n).length ≤ K ∧ K ≤ zs.length := by
  unfold getR
  by_cases h1 : zs.length = 0
  · rw [if_pos h1]; exact .inl rfl
  rw [if_neg h1]
  by_cases h2 : zs.length < klen (zs[0]?.getD 0)
  · rw [if_pos h2]; exact .inl rfl
  rw [if_neg h2]
  refine .inr ⟨_, _, rfl, ?_⟩
  have hk := klen_cases (zs[0]?.getD 0)
  have hbd := told_bound zs (klen (zs[0]?.getD 0) - 1) (by omega) hb
  have hx : (klen (zs[0]?.getD 0) = 1 ∧ told zs (klen (zs[0]?.getD 0) - 1) < 64) ∨ (klen (zs[0]?.getD 0) = 2 ∧ told zs (klen (zs[0]?.getD 0) - 1) < 16384) ∨ (klen (zs[0]?.getD 0) = 4 ∧ told zs (klen (zs[0]?.getD 0) - 1) < 1073741824) ∨ (klen (zs[0]?.getD 0) = 8 ∧ told zs (klen (zs[0]?.getD 0) - 1) < 4611686018427387904) := by
    rcases hk with h | h | h | h
    · rw [h] at hbd ⊢; exact .inl ⟨rfl, hbd.2.1⟩
    · rw [h] at hbd ⊢; exact .inr (.inl ⟨rfl, hbd.2.1⟩)
    · rw [h] at hbd ⊢; exact .inr (.inr (.inl ⟨rfl, hbd.2.1⟩))
    · rw [h] at hbd ⊢; exact .inr (.inr (.inr ⟨rfl, hbd.2.2⟩))
  obtain ⟨q1, q2⟩ := putL_le _ _ hbd.1 hx
  exact ⟨hbd.1, q1, q2, by omega⟩

theorem sev_short (f : Nat) : ∀ (k : Nat) (r : Int), 0 ≤ r → r < 2 ^ (7 * (k + 1)) → (sev f r).length ≤ k + 1 := by
  induction f with
  | zero => intro k r _ _; simp [sev]
  | succ f ih =>
    intro k r h0 h1
    by_cases hr : r < 128
    · rw [sev_last _ _ hr]; simp
    · cases k with
      | zero =>
        have e : (2 : Int) ^ (7 * (0 + 1)) = 128 := by decide
        rw [e] at h1
        omega
      | succ k =>
        have e : (2 : Int) ^ (7 * (k + 1 + 1)) = 128 * 2 ^ (7 * (k + 1)) := by
          rw [show 7 * (k + 1 + 1) = 7 * (k + 1) + 7 by omega, Int.pow_add, Int.mul_comm]
          rfl
        rw [e] at h1
        have ih2 := ih k (r / 128) (by omega) (by omega)
        rw [sev_more f r (by omega), List.length_cons]
        omega

theorem IsMask.le {b M : Int} (h : IsMask b M) (c : Int) (h0 : 0 ≤ c) : c % (M + 1) ≤ c := by
  unfold IsMask at h
  rcases h with ⟨rfl, rfl⟩ | ⟨rfl, rfl⟩ | ⟨rfl, rfl⟩ | ⟨rfl, rfl⟩ | ⟨rfl, rfl⟩ | ⟨rfl, rfl⟩ | ⟨rfl, rfl⟩ | ⟨rfl, rfl⟩ <;> omega

theorem getP_again (M b : Int) (zs : List Int) (hM : IsMask b M) (hb : ∀ j : Nat, 0 ≤ zs[j]?.getD 0 ∧ zs[j]?.getD 0 ≤ 255) : (∃ e, getP M zs = (0, 0, 0, e) ∧ 3 ≤ e ∧ e ≤ 5) ∨
    ∃ ab x j, getP M zs = (ab, x, j, 0) ∧ MayPut ab b M x ∧ ((putP ab M x).length : Int) ≤ j ∧ j ≤ zs.length ∧ j ≤ 11 := by
  have hbd := hM.bd
  have hz := hb 0
  have hmod := Int.emod_lt_of_pos (zs[0]?.getD 0) (show 0 < M + 1 by omega)
  have hmod0 := Int.emod_nonneg (zs[0]?.getD 0) (show M + 1 ≠ 0 by omega)
  have hle : zs[0]?.getD 0 % (M + 1) ≤ zs[0]?.getD 0 := hM.le _ hz.1
  have hab : (zs[0]?.getD 0 - zs[0]?.getD 0 % (M + 1)) % (M + 1) = 0 := by
    rw [Int.sub_emod, Int.emod_emod_of_dvd _ (Int.dvd_refl _), Int.sub_self, Int.zero_emod]
  unfold getP
  by_cases h1 : zs.length = 0
  · rw [if_pos h1]; exact .inl ⟨4, rfl, by decide, by decide⟩
  rw [if_neg h1]
  by_cases h2 : zs[0]?.getD 0 % (M + 1) < M
  · rw [if_pos h2]
    refine .inr ⟨_, _, _, rfl, ⟨hM, by omega, by omega, hab, by omega, by omega⟩, ?_, by omega, by omega⟩
    unfold putP
    rw [if_pos h2]
    simp
  rw [if_neg h2]
  by_cases h3 : 10 ≤ cnt (zs.drop 1)
  · rw [if_pos h3]; exact .inl ⟨5, rfl, by decide, by decide⟩
  rw [if_neg h3]
  by_cases h4 : cnt (zs.drop 1) = (zs.drop 1).length
  · rw [if_pos h4]; exact .inl ⟨4, rfl, by decide, by decide⟩
  rw [if_neg h4]
  by_cases h5 : 4611686018427387903 < val7 ((zs.drop 1).take (cnt (zs.drop 1) + 1)) + M
  · rw [if_pos h5]; exact .inl ⟨3, rfl, by decide, by decide⟩
  rw [if_neg h5]
  have hv := val7_bound ((zs.drop 1).take (cnt (zs.drop 1) + 1))
  have hcl := cnt_le (zs.drop 1)
  have hlen : ((zs.drop 1).take (cnt (zs.drop 1) + 1)).length = cnt (zs.drop 1) + 1 := by rw [List.length_take]; omega
  rw [hlen] at hv
  have hd : (zs.drop 1).length = zs.length - 1 := List.length_drop
  refine .inr ⟨_, _, _, rfl, ⟨hM, by omega, by omega, hab, by omega, by omega⟩, ?_, by omega, by omega⟩
  unfold putP
  rw [if_neg (by omega), List.length_cons]
  have hs := sev_short 9 (cnt (zs.drop 1)) (val7 ((zs.drop 1).take (cnt (zs.drop 1) + 1)) + M - M) (by omega) (by omega)
  omega
end Go.Proofs.YtmgmejbjekojnaaDoor
