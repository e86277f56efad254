/-
  What getSevens answers, in plain words.
-/
import Derived.Test.YtdoojlffejjbaaaGetSevens
import Derived.Test.YtdoojlffejjbaaaPlain3
namespace Go.Proofs.Ytdoojlffejjbaaa
open Go.RowKit

theorem orN_upto (zs : List Int) (hb : ∀ j : Nat, 0 ≤ zs[j]?.getD 0 ∧ zs[j]?.getD 0 ≤ 255) : ∀ m : Nat, m ≤ 9 → m ≤ zs.length → orN (upto zs m) = val7 (zs.take m)
  | 0, _, _ => by simp [upto, orN, val7]
  | m + 1, h, hl => by
    have ih := orN_upto zs hb m (by omega) (by omega)
    have hbd := val7_bound (zs.take m)
    rw [show (zs.take m).length = m by simp; omega] at hbd
    rw [upto_succ, orN_snoc, ih, ixOf_mk _ _ (by omega), byOf_mk _ _ (hb m).1 (hb m).2, join7 _ _ m (by omega) hbd.1 hbd.2 (by omega) (by omega), val7_take zs m (by omega)]

theorem upto_ahead {zs : List Int} (hb : ∀ j : Nat, 0 ≤ zs[j]?.getD 0 ∧ zs[j]?.getD 0 ≤ 255) {k : Nat} (h : ∀ y ∈ upto zs k, 128 ≤ byOf y) : ∀ j, j < k → 128 ≤ zs[j]?.getD 0 := by
  intro j hj
  have := h (j, zs[j]?.getD 0) (by unfold upto; simp only [List.mem_map, List.mem_range]; exact ⟨j, hj, rfl⟩)
  rw [byOf_mk _ _ (hb j).1 (hb j).2] at this
  exact this

theorem or_zero (n : Int) (h0 : 0 ≤ n) (h1 : n < 18446744073709551616) : bits .or .u64 n 0 = n := by
  rw [u64_or _ _ h0 h1 (by decide) (by decide)]
  have : (0 : Int).toNat = 0 := rfl
  rw [this, Nat.or_zero]
  omega

/-- What getSevens answers. -/
theorem sev_spec (zs : List Int) (hb : ∀ j : Nat, 0 ≤ zs[j]?.getD 0 ∧ zs[j]?.getD 0 ≤ 255) (r0 r1 r2 : Int) (h : SevRes zs r0 r1 r2) :
    (r2 = 5 ∧ 10 ≤ cnt zs) ∨ (r2 = 4 ∧ cnt zs = zs.length ∧ cnt zs < 10) ∨ (r2 = 3 ∧ cnt zs < zs.length ∧ cnt zs < 10 ∧ 4611686018427387903 < val7 (zs.take (cnt zs + 1))) ∨
    (r2 = 0 ∧ cnt zs < zs.length ∧ cnt zs < 10 ∧ r0 = val7 (zs.take (cnt zs + 1)) ∧ 0 ≤ r0 ∧ r0 < 9223372036854775808 ∧ r1 = (cnt zs : Int) + 1) := by
  rcases h with ⟨ini, last, e1, hl, h10, ha, hla, ho⟩ | ⟨ha, hl, _, _, rfl⟩ | ⟨ha, hl, _, _, rfl⟩
  · obtain ⟨k, hk⟩ : ∃ k, k = ini.length := ⟨_, rfl⟩
    rw [← hk] at e1 hl h10
    rw [upto_succ] at e1
    obtain ⟨rfl, e2⟩ := List.append_inj' e1 rfl
    obtain rfl : last = (k, zs[k]?.getD 0) := by simpa using e2
    have hbk := hb k
    rw [byOf_mk _ _ hbk.1 hbk.2] at hla
    have hc := cnt_eq zs k hl (upto_ahead hb ha) hla
    rw [hc]
    unfold SevOut at ho
    rw [ixOf_mk _ _ h10, byOf_mk _ _ hbk.1 hbk.2] at ho
    have hmod : zs[k]?.getD 0 % 128 = zs[k]?.getD 0 := by omega
    rw [hmod] at ho
    have hv := val7_take zs k hl
    rw [hmod] at hv
    have hbd := val7_bound (zs.take k)
    rw [show (zs.take k).length = k by simp; omega] at hbd
    have hpos : (0 : Int) < 2 ^ (7 * k) := Int.pow_pos (by decide)
    have hmul : 0 ≤ zs[k]?.getD 0 * 2 ^ (7 * k) := Int.mul_nonneg hbk.1 (by omega)
    rcases ho with ⟨hlim, _, _, rfl⟩ | ⟨hlim, rfl, rfl, rfl⟩
    · refine .inr (.inr (.inl ⟨rfl, hl, h10, ?_⟩))
      have h2 := (Int.ediv_lt_iff_lt_mul hpos).1 hlim
      rw [hv]
      omega
    · refine .inr (.inr (.inr ⟨rfl, hl, h10, ?_⟩))
      by_cases hk8 : k ≤ 8
      · have e := orN_upto zs hb (k + 1) (by omega) (by omega)
        rw [upto_succ] at e
        have hbd2 := val7_bound (zs.take (k + 1))
        rw [show (zs.take (k + 1)).length = k + 1 by simp; omega] at hbd2
        have hp := pow_le (7 * (k + 1)) 63 (by omega)
        have e63 : (2 : Int) ^ 63 = 9223372036854775808 := by decide
        refine ⟨e, ?_, ?_, rfl⟩
        · rw [e]; exact hbd2.1
        · rw [e]; omega
      · obtain rfl : k = 9 := by omega
        have hz : zs[9]?.getD 0 = 0 := by
          have : (4611686018427387903 : Int) / 2 ^ (7 * 9) = 0 := by decide
          rw [this] at hlim
          omega
        have e := orN_upto zs hb 9 (by omega) (by omega)
        have hp := pow_le (7 * 9) 63 (by omega)
        have e63 : (2 : Int) ^ 63 = 9223372036854775808 := by decide
        have h2 : orN (upto zs 9 ++ [(9, zs[9]?.getD 0)]) = val7 (zs.take 9) := by
          rw [orN_snoc, ixOf_mk _ _ (by decide), byOf_mk _ _ hbk.1 hbk.2, hz, e]
          have : IntKind.u64.wrap (0 % 128 * 2 ^ (7 * 9)) = 0 := by decide
          rw [this, or_zero _ hbd.1 (by omega)]
        rw [hz, Int.zero_mul, Int.add_zero] at hv
        exact ⟨by rw [h2, hv], by rw [h2]; exact hbd.1, by rw [h2]; omega, rfl⟩
  · have := cnt_ge zs zs.length (Nat.le_refl _) (upto_ahead hb ha)
    have := cnt_le zs
    exact .inr (.inl ⟨rfl, by omega, by omega⟩)
  · exact .inl ⟨rfl, cnt_ge zs 10 hl (upto_ahead hb ha)⟩

/-- What GetPrefix answers: what stands above, the number, how many bytes, the error. -/
def getP (M : Int) (zs : List Int) : Int × Int × Int × Int :=
  if zs.length = 0 then (0, 0, 0, 4)
  else if zs[0]?.getD 0 % (M + 1) < M then (zs[0]?.getD 0 - zs[0]?.getD 0 % (M + 1), zs[0]?.getD 0 % (M + 1), 1, 0)
  else if 10 ≤ cnt (zs.drop 1) then (0, 0, 0, 5)
  else if cnt (zs.drop 1) = (zs.drop 1).length then (0, 0, 0, 4)
  else if 4611686018427387903 < val7 ((zs.drop 1).take (cnt (zs.drop 1) + 1)) + M then (0, 0, 0, 3)
  else (zs[0]?.getD 0 - zs[0]?.getD 0 % (M + 1), val7 ((zs.drop 1).take (cnt (zs.drop 1) + 1)) + M, (cnt (zs.drop 1) : Int) + 2, 0)

def getPV (M : Int) (zs : List Int) : Value := .tuple #[.int .u8 (getP M zs).1, .int .u64 (getP M zs).2.1, .int .i64 (getP M zs).2.2.1, .int .i64 (getP M zs).2.2.2]
end Go.Proofs.Ytdoojlffejjbaaa
