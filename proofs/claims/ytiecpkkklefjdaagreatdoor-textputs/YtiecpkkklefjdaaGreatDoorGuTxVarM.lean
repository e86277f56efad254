/-
  What was put is got; what was got is put in as few bytes at most.
-/
import Derived.Test.YtiecpkkklefjdaaGreatDoorGuTxVarW
namespace Go.Proofs.YtiecpkkklefjdaaGreatDoor.Vi

section
open Go.RowKit

theorem pw_pos : ∀ f : Nat, 64 ≤ pw f
  | 0 => by decide
  | f + 1 => by have := pw_pos f; unfold pw; omega

theorem sev_cnt (more : List Int) : ∀ (f : Nat) (r : Int), 0 ≤ r → r < pw f → cnt (sev f r ++ more) = (sev f r).length - 1 ∧ val7 (sev f r) = r ∧ cnt ((sev f r).take ((sev f r).length - 1)) = (sev f r).length - 1
  | 0, r, h0, h1 => by
    have h2 : r < 64 := h1
    refine ⟨?_, ?_, rfl⟩
    · show cnt (r :: more) = 0
      rw [cnt, if_neg (by omega)]
    · show r % 128 + 128 * 0 = r
      omega
  | f + 1, r, h0, h1 => by
    by_cases hr : r < 128
    · rw [sev_last _ _ hr]
      refine ⟨?_, ?_, rfl⟩
      · show cnt (r :: more) = 0
        rw [cnt, if_neg (by omega)]
      · show r % 128 + 128 * 0 = r
        omega
    · have h2 : r < 128 * pw f := h1
      obtain ⟨i1, i2, i3⟩ := sev_cnt more f (r / 128) (by omega) (by omega)
      have hl := sev_len f (r / 128)
      rw [sev_more f r (by omega)]
      refine ⟨?_, ?_, ?_⟩
      · rw [List.cons_append, cnt, if_pos (by omega), i1, List.length_cons]; omega
      · rw [val7, i2]; omega
      · rw [List.length_cons, Nat.add_sub_cancel]
        obtain ⟨k, hk⟩ : ∃ k, (sev f (r / 128)).length = k + 1 := ⟨(sev f (r / 128)).length - 1, by omega⟩
        rw [hk] at i3 ⊢
        rw [Nat.add_sub_cancel] at i3
        rw [List.take_succ_cons, cnt, if_pos (by omega), i3]

theorem sev_bytes : ∀ (f : Nat) (r : Int), 0 ≤ r → r < pw f → ∀ c ∈ sev f r, 0 ≤ c ∧ c ≤ 255
  | 0, r, h0, h1 => by
    have h2 : r < 64 := h1
    intro c hc
    have : c = r := by simpa [sev] using hc
    omega
  | f + 1, r, h0, h1 => by
    by_cases hr : r < 128
    · rw [sev_last _ _ hr]
      intro c hc
      have : c = r := by simpa using hc
      omega
    · have h2 : r < 128 * pw f := h1
      rw [sev_more f r (by omega)]
      intro c hc
      rcases List.mem_cons.1 hc with h | h
      · omega
      · exact sev_bytes f (r / 128) (by omega) (by omega) c h

/-- What may be put into what is left of a byte. -/
structure MayPut (first b M n : Int) : Prop where
  mask : IsMask b M
  f0 : 0 ≤ first
  f1 : first ≤ 255
  fm : first % (M + 1) = 0
  n0 : 0 ≤ n
  n1 : n ≤ 4611686018427387903

theorem MayPut.top {first b M n : Int} (h : MayPut first b M n) : first + M ≤ 255 := by
  obtain ⟨hm, f0, f1, fm, _, _⟩ := h
  unfold IsMask at hm
  rcases hm with ⟨rfl, rfl⟩ | ⟨rfl, rfl⟩ | ⟨rfl, rfl⟩ | ⟨rfl, rfl⟩ | ⟨rfl, rfl⟩ | ⟨rfl, rfl⟩ | ⟨rfl, rfl⟩ | ⟨rfl, rfl⟩ <;> omega

theorem MayPut.mod {first b M n : Int} (h : MayPut first b M n) (y : Int) (y0 : 0 ≤ y) (y1 : y ≤ M) : (first + y) % (M + 1) = y := by
  have hb := h.mask.bd
  rw [Int.add_emod, h.fm, Int.zero_add, Int.emod_emod_of_dvd _ (Int.dvd_refl _)]
  exact Int.emod_eq_of_lt y0 (by omega)

theorem MayPut.pw {first b M n : Int} (h : MayPut first b M n) : n - M < pw 9 := by
  have hb := h.mask.bd
  have := h.n1
  rw [pw_nine]
  omega

/-- It is got again, whatever stands behind. -/
theorem getP_put {first b M n : Int} (h : MayPut first b M n) (more : List Int) : getP M (putP first M n ++ more) = (first, n, ((putP first M n).length : Int), 0) := by
  have hb := h.mask.bd
  have hn1 := h.n1
  have hpw := h.pw
  have hn0 := h.n0
  unfold putP
  by_cases hs : n < M
  · rw [if_pos hs]
    unfold getP
    have e : ([first + n] ++ more)[0]?.getD 0 = first + n := rfl
    rw [if_neg (by simp), e, h.mod n h.n0 (by omega), if_pos hs]
    rw [show first + n - n = first by omega]
    rfl
  · rw [if_neg hs]
    obtain ⟨c1, c2, c3⟩ := sev_cnt more 9 (n - M) (by omega) hpw
    have hl := sev_len 9 (n - M)
    unfold getP
    have e : (((first + M) :: sev 9 (n - M)) ++ more)[0]?.getD 0 = first + M := rfl
    have e2 : (((first + M) :: sev 9 (n - M)) ++ more).drop 1 = sev 9 (n - M) ++ more := rfl
    have e3 : (sev 9 (n - M) ++ more).take ((sev 9 (n - M)).length - 1 + 1) = sev 9 (n - M) := by
      rw [show (sev 9 (n - M)).length - 1 + 1 = (sev 9 (n - M)).length by omega]
      simp
    rw [if_neg (by simp), e, e2, h.mod M (by omega) (by omega), if_neg (by omega), c1, if_neg (by omega), if_neg (by rw [List.length_append]; omega), e3, c2, if_neg (by omega)]
    have e4 : first + M - M = first := by omega
    have e5 : n - M + M = n := by omega
    have e6 : (((sev 9 (n - M)).length - 1 : Nat) : Int) + 2 = ((((first + M) :: sev 9 (n - M)).length : Nat) : Int) := by rw [List.length_cons]; omega
    rw [e4, e5, e6]

/-- Of fewer bytes, none. -/
theorem getP_less {first b M n : Int} (h : MayPut first b M n) : getP M ((putP first M n).take ((putP first M n).length - 1)) = (0, 0, 0, 4) := by
  have hb := h.mask.bd
  have hn1 := h.n1
  have hpw := h.pw
  have hn0 := h.n0
  unfold putP
  by_cases hs : n < M
  · rw [if_pos hs]
    unfold getP
    rw [if_pos (by rfl)]
  · rw [if_neg hs]
    obtain ⟨c1, c2, c3⟩ := sev_cnt [] 9 (n - M) (by omega) hpw
    have hl := sev_len 9 (n - M)
    obtain ⟨k, hk⟩ : ∃ k, (sev 9 (n - M)).length = k + 1 := ⟨(sev 9 (n - M)).length - 1, by omega⟩
    rw [List.length_cons, Nat.add_sub_cancel, hk, List.take_succ_cons]
    rw [hk, Nat.add_sub_cancel] at c3
    unfold getP
    have e : ((first + M) :: (sev 9 (n - M)).take k)[0]?.getD 0 = first + M := rfl
    have e2 : ((first + M) :: (sev 9 (n - M)).take k).drop 1 = (sev 9 (n - M)).take k := rfl
    rw [if_neg (by simp), e, e2, h.mod M (by omega) (by omega), if_neg (by omega), c3, if_neg (by omega), if_pos (by rw [List.length_take]; omega)]

theorem putP_bytes {first b M n : Int} (h : MayPut first b M n) : ∀ c ∈ putP first M n, 0 ≤ c ∧ c ≤ 255 := by
  have hb := h.mask.bd
  have ht := h.top
  have hf := h.f0
  have hpw := h.pw
  have hn0 := h.n0
  unfold putP
  by_cases hs : n < M
  · rw [if_pos hs]
    intro c hc
    have : c = first + n := by simpa using hc
    omega
  · rw [if_neg hs]
    intro c hc
    rcases List.mem_cons.1 hc with e | e
    · omega
    · exact sev_bytes 9 (n - M) (by omega) hpw c e
end

section
open Go.RowKit
theorem sev_short (f : Nat) : ∀ (k : Nat) (r : Int), 0 ≤ r → r < 2 ^ (7 * (k + 1)) → (sev f r).length ≤ k + 1 := by
  induction f with
  | zero => intro k r _ _; simp [sev]
  | succ f ih =>
    intro k r h0 h1
    by_cases hr : r < 128
    · rw [sev_last _ _ hr]; simp
    · cases k with
      | zero =>
        have e : (2 : Int) ^ (7 * (0 + 1)) = 128 := by decide
        rw [e] at h1
        omega
      | succ k =>
        have e : (2 : Int) ^ (7 * (k + 1 + 1)) = 128 * 2 ^ (7 * (k + 1)) := by
          rw [show 7 * (k + 1 + 1) = 7 * (k + 1) + 7 by omega, Int.pow_add, Int.mul_comm]
          rfl
        rw [e] at h1
        have ih2 := ih k (r / 128) (by omega) (by omega)
        rw [sev_more f r (by omega), List.length_cons]
        omega

theorem getP_again (M b : Int) (zs : List Int) (hM : IsMask b M) (hb : ∀ j : Nat, 0 ≤ zs[j]?.getD 0 ∧ zs[j]?.getD 0 ≤ 255) : (∃ e, getP M zs = (0, 0, 0, e) ∧ 3 ≤ e ∧ e ≤ 5) ∨
    ∃ ab x j, getP M zs = (ab, x, j, 0) ∧ MayPut ab b M x ∧ ((putP ab M x).length : Int) ≤ j ∧ j ≤ zs.length ∧ j ≤ 11 := by
  have hbd := hM.bd
  have hz := hb 0
  have hmod := Int.emod_lt_of_pos (zs[0]?.getD 0) (show 0 < M + 1 by omega)
  have hmod0 := Int.emod_nonneg (zs[0]?.getD 0) (show M + 1 ≠ 0 by omega)
  have hle : zs[0]?.getD 0 % (M + 1) ≤ zs[0]?.getD 0 := hM.le _ hz.1
  have hab : (zs[0]?.getD 0 - zs[0]?.getD 0 % (M + 1)) % (M + 1) = 0 := by
    rw [Int.sub_emod, Int.emod_emod_of_dvd _ (Int.dvd_refl _), Int.sub_self, Int.zero_emod]
  unfold getP
  by_cases h1 : zs.length = 0
  · rw [if_pos h1]; exact .inl ⟨4, rfl, by decide, by decide⟩
  rw [if_neg h1]
  by_cases h2 : zs[0]?.getD 0 % (M + 1) < M
  · rw [if_pos h2]
    refine .inr ⟨_, _, _, rfl, ⟨hM, by omega, by omega, hab, by omega, by omega⟩, ?_, by omega, by omega⟩
    unfold putP
    rw [if_pos h2]
    simp
  rw [if_neg h2]
  by_cases h3 : 10 ≤ cnt (zs.drop 1)
  · rw [if_pos h3]; exact .inl ⟨5, rfl, by decide, by decide⟩
  rw [if_neg h3]
  by_cases h4 : cnt (zs.drop 1) = (zs.drop 1).length
  · rw [if_pos h4]; exact .inl ⟨4, rfl, by decide, by decide⟩
  rw [if_neg h4]
  by_cases h5 : 4611686018427387903 < val7 ((zs.drop 1).take (cnt (zs.drop 1) + 1)) + M
  · rw [if_pos h5]; exact .inl ⟨3, rfl, by decide, by decide⟩
  rw [if_neg h5]
  have hv := val7_bound ((zs.drop 1).take (cnt (zs.drop 1) + 1))
  have hcl := cnt_le (zs.drop 1)
  have hlen : ((zs.drop 1).take (cnt (zs.drop 1) + 1)).length = cnt (zs.drop 1) + 1 := by rw [List.length_take]; omega
  rw [hlen] at hv
  have hd : (zs.drop 1).length = zs.length - 1 := List.length_drop
  refine .inr ⟨_, _, _, rfl, ⟨hM, by omega, by omega, hab, by omega, by omega⟩, ?_, by omega, by omega⟩
  unfold putP
  rw [if_neg (by omega), List.length_cons]
  have hs := sev_short 9 (cnt (zs.drop 1)) (val7 ((zs.drop 1).take (cnt (zs.drop 1) + 1)) + M - M) (by omega) (by omega)
  omega
end

end Go.Proofs.YtiecpkkklefjdaaGreatDoor.Vi
