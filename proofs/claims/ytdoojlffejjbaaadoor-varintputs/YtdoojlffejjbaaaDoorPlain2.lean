/-
  Plain arithmetic on numbers in bytes of 7 bits: no program in sight.
-/
import Derived.Test.YtdoojlffejjbaaaDoorPlain
namespace Go.Proofs.YtdoojlffejjbaaaDoor
open Go

/-- The bytes of 7 bits of a number, the lowest bits first: 128 more in each but the last one. -/
def sev : Nat → Int → List Int
  | 0, r => [r]
  | f + 1, r => if r < 128 then [r] else (r % 128 + 128) :: sev f (r / 128)

theorem sev_last (f : Nat) (r : Int) (h : r < 128) : sev f r = [r] := by
  cases f with
  | zero => rfl
  | succ f => unfold sev; rw [if_pos h]

theorem sev_more (f : Nat) (r : Int) (h : 128 ≤ r) : sev (f + 1) r = (r % 128 + 128) :: sev f (r / 128) := by
  rw [sev, if_neg (by omega)]

theorem sev_len (f : Nat) : ∀ r : Int, 1 ≤ (sev f r).length ∧ (sev f r).length ≤ f + 1 := by
  induction f with
  | zero => intro r; simp [sev]
  | succ f ih =>
    intro r
    unfold sev
    split
    · simp
    · have := ih (r / 128)
      simp only [List.length_cons]
      omega

def pw : Nat → Int
  | 0 => 64
  | f + 1 => 128 * pw f
theorem pw_nine : pw 9 = 590295810358705651712 := by decide

theorem or128 (r : Int) (h0 : 0 ≤ r) : bits .or .u8 (r % 256) 128 = r % 128 + 128 := by
  rw [u8_or _ _ (by omega) (by omega) (by omega) (by omega)]
  have e : (r % 256).toNat = (r.toNat % 256) := by omega
  have e2 : (128 : Int).toNat = 128 := rfl
  rw [e, e2]
  have h : r.toNat % 256 ||| 128 = 128 + r.toNat % 128 := by
    by_cases hb : r.toNat % 256 < 128
    · rw [Nat.or_comm, nat_join 7 128 (r.toNat % 256) (by decide) (by omega)]; omega
    · have e3 : r.toNat % 256 = 128 ||| (r.toNat % 128) := by rw [nat_join 7 128 _ (by decide) (by omega)]; omega
      rw [e3, Nat.or_comm, ← Nat.or_assoc, Nat.or_self, nat_join 7 128 _ (by decide) (by omega)]
  rw [h]
  omega

theorem mask7f (c : Int) (h0 : 0 ≤ c) (h1 : c ≤ 255) : bits .and .u8 c 127 = c % 128 := by
  rw [u8_and _ _ (by omega) (by omega) (by omega) (by omega)]
  have : (127 : Int).toNat = 127 := rfl
  rw [this, nat_mask7]
  omega

/-- M is the number whose b lowest bits are set, b from 1 to 8. -/
def IsMask (b M : Int) : Prop := (b = 1 ∧ M = 1) ∨ (b = 2 ∧ M = 3) ∨ (b = 3 ∧ M = 7) ∨ (b = 4 ∧ M = 15) ∨ (b = 5 ∧ M = 31) ∨ (b = 6 ∧ M = 63) ∨ (b = 7 ∧ M = 127) ∨ (b = 8 ∧ M = 255)

theorem IsMask.of (b : Int) (h0 : 1 ≤ b) (h1 : b ≤ 8) : ∃ M, IsMask b M := by
  rcases (show b = 1 ∨ b = 2 ∨ b = 3 ∨ b = 4 ∨ b = 5 ∨ b = 6 ∨ b = 7 ∨ b = 8 by omega) with h | h | h | h | h | h | h | h
  · exact ⟨1, .inl ⟨h, rfl⟩⟩
  · exact ⟨3, .inr (.inl ⟨h, rfl⟩)⟩
  · exact ⟨7, .inr (.inr (.inl ⟨h, rfl⟩))⟩
  · exact ⟨15, .inr (.inr (.inr (.inl ⟨h, rfl⟩)))⟩
  · exact ⟨31, .inr (.inr (.inr (.inr (.inl ⟨h, rfl⟩))))⟩
  · exact ⟨63, .inr (.inr (.inr (.inr (.inr (.inl ⟨h, rfl⟩)))))⟩
  · exact ⟨127, .inr (.inr (.inr (.inr (.inr (.inr (.inl ⟨h, rfl⟩))))))⟩
  · exact ⟨255, .inr (.inr (.inr (.inr (.inr (.inr (.inr ⟨h, rfl⟩))))))⟩

theorem IsMask.bd {b M : Int} (h : IsMask b M) : 1 ≤ b ∧ b ≤ 8 ∧ 1 ≤ M ∧ M ≤ 255 := by unfold IsMask at h; omega

/-- M is 2^k - 1. -/
theorem IsMask.nat {b M : Int} (h : IsMask b M) : ∃ k : Nat, 1 ≤ k ∧ k ≤ 8 ∧ M + 1 = (2 ^ k : Nat) ∧ b = k := by
  unfold IsMask at h
  rcases h with ⟨rfl, rfl⟩ | ⟨rfl, rfl⟩ | ⟨rfl, rfl⟩ | ⟨rfl, rfl⟩ | ⟨rfl, rfl⟩ | ⟨rfl, rfl⟩ | ⟨rfl, rfl⟩ | ⟨rfl, rfl⟩
  · exact ⟨1, by decide, by decide, rfl, rfl⟩
  · exact ⟨2, by decide, by decide, rfl, rfl⟩
  · exact ⟨3, by decide, by decide, rfl, rfl⟩
  · exact ⟨4, by decide, by decide, rfl, rfl⟩
  · exact ⟨5, by decide, by decide, rfl, rfl⟩
  · exact ⟨6, by decide, by decide, rfl, rfl⟩
  · exact ⟨7, by decide, by decide, rfl, rfl⟩
  · exact ⟨8, by decide, by decide, rfl, rfl⟩

theorem modNat (c : Int) (m : Nat) (h0 : 0 ≤ c) : c % (m : Int) = ((c.toNat % m : Nat) : Int) := by
  rw [Int.natCast_emod]
  congr 1
  omega

theorem IsMask.and64 {b M : Int} (h : IsMask b M) (c : Int) (h0 : 0 ≤ c) (h1 : c ≤ 255) : bits .and .u64 c M = c % (M + 1) := by
  obtain ⟨k, _, _, hk, _⟩ := h.nat
  have hb := h.bd
  rw [u64_and _ _ (by omega) (by omega) (by omega) (by omega)]
  have e : M.toNat = 2 ^ k - 1 := by omega
  rw [e, Nat.and_two_pow_sub_one_eq_mod, hk, modNat c _ h0]

theorem IsMask.or8 {b M : Int} (h : IsMask b M) (c y : Int) (h0 : 0 ≤ c) (h1 : c ≤ 255) (hc : c % (M + 1) = 0) (hy0 : 0 ≤ y) (hy : y ≤ M) : bits .or .u8 c y = c + y := by
  obtain ⟨k, _, _, hk, _⟩ := h.nat
  have hb := h.bd
  rw [u8_or _ _ (by omega) (by omega) (by omega) (by omega)]
  rw [hk, modNat c _ h0] at hc
  rw [nat_join k _ _ (by omega) (by omega)]
  omega

theorem andNot_all : ∀ k, k < 9 → ∀ a, a < 256 → a &&& (255 - (2 ^ k - 1)) = a - a % 2 ^ k := by decide +kernel

theorem IsMask.andNot8 {b M : Int} (h : IsMask b M) (c : Int) (h0 : 0 ≤ c) (h1 : c ≤ 255) : bits .andNot .u8 c M = c - c % (M + 1) := by
  obtain ⟨k, _, hk8, hk, _⟩ := h.nat
  have hb := h.bd
  rw [u8_andNot _ _ (by omega) (by omega) (by omega) (by omega)]
  have e : M.toNat = 2 ^ k - 1 := by omega
  rw [e, andNot_all k (by omega) _ (by omega), hk, modNat c _ h0]
  have : c.toNat % 2 ^ k ≤ c.toNat := Nat.mod_le _ _
  omega

theorem IsMask.le {b M : Int} (h : IsMask b M) (c : Int) (h0 : 0 ≤ c) : c % (M + 1) ≤ c := by
  unfold IsMask at h
  rcases h with ⟨rfl, rfl⟩ | ⟨rfl, rfl⟩ | ⟨rfl, rfl⟩ | ⟨rfl, rfl⟩ | ⟨rfl, rfl⟩ | ⟨rfl, rfl⟩ | ⟨rfl, rfl⟩ | ⟨rfl, rfl⟩ <;> omega

/-- The bytes of a number that begins in what is left of a byte. -/
def putP (first M n : Int) : List Int := if n < M then [first + n] else (first + M) :: sev 9 (n - M)
end Go.Proofs.YtdoojlffejjbaaaDoor
