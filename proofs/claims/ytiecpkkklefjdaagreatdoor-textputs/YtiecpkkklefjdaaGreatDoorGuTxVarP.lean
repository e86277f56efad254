/-
  Plain arithmetic on numbers in what is left of a byte.
-/
import Derived.Laws.BitsAllLaws
namespace Go.Proofs.YtiecpkkklefjdaaGreatDoor.Vi

section
open Go

/-- How many bytes a number has, by its first byte. -/
def klen (z : Int) : Nat := if z < 64 then 1 else if z < 128 then 2 else if z < 192 then 4 else 8

/-- The number that bytes tell, the highest first, behind what is told already. -/
def acc (n : Int) : List Int → Int
  | [] => n
  | c :: r => acc (256 * n + c) r

theorem acc_snoc (n : Int) (l : List Int) (c : Int) : acc n (l ++ [c]) = 256 * acc n l + c := by
  induction l generalizing n with
  | nil => rfl
  | cons a r ih => exact ih (256 * n + a)

def isBytes (l : List Int) : Prop := ∀ c ∈ l, 0 ≤ c ∧ c ≤ 255

theorem acc_bound (l : List Int) : ∀ (n : Int) (m : Nat), 0 ≤ n → n < 2 ^ m → isBytes l → 0 ≤ acc n l ∧ acc n l < 2 ^ (m + 8 * l.length) := by
  induction l with
  | nil => intro n m h0 h1 _; exact ⟨h0, by simpa [acc] using h1⟩
  | cons c r ih =>
    intro n m h0 h1 hb
    have hc := hb c (by simp)
    have h2 := ih (256 * n + c) (m + 8) (by omega) (by
      have : (2 : Int) ^ (m + 8) = 2 ^ m * 256 := by rw [Int.pow_add]; rfl
      omega) (fun x hx => hb x (by simp [hx]))
    have e : m + 8 + 8 * r.length = m + 8 * (c :: r).length := by simp; omega
    rw [e] at h2
    exact h2

theorem klen_cases (z : Int) : klen z = 1 ∨ klen z = 2 ∨ klen z = 4 ∨ klen z = 8 := by
  unfold klen; repeat (first | split | simp)

theorem klen_le (z : Int) : 1 ≤ klen z ∧ klen z ≤ 8 := by
  rcases klen_cases z with h | h | h | h <;> omega

theorem take_snoc (zs : List Int) (k : Nat) (h : k < zs.length) : zs.take (k + 1) = zs.take k ++ [zs[k]?.getD 0] := by
  rw [List.take_succ_eq_append_getElem h]
  simp [h]

/-- What is told by the first 1 + i bytes. -/
def told (zs : List Int) (i : Nat) : Int := acc (zs[0]?.getD 0 % 64) ((zs.drop 1).take i)

theorem told_zero (zs : List Int) : told zs 0 = zs[0]?.getD 0 % 64 := by simp [told, acc]

theorem told_succ (zs : List Int) (i : Nat) (h : i + 1 < zs.length) : told zs (i + 1) = 256 * told zs i + zs[i + 1]?.getD 0 := by
  unfold told
  rw [take_snoc (zs.drop 1) i (by simp; omega), acc_snoc]
  simp

theorem told_bound (zs : List Int) (i : Nat) (hi : i ≤ 7) (hb : ∀ j : Nat, 0 ≤ zs[j]?.getD 0 ∧ zs[j]?.getD 0 ≤ 255) : 0 ≤ told zs i ∧ told zs i < 2 ^ (6 + 8 * i) ∧ told zs i < 4611686018427387904 := by
  have hl : ((zs.drop 1).take i).length ≤ i := by simp; omega
  have h := acc_bound ((zs.drop 1).take i) (zs[0]?.getD 0 % 64) 6 (by have := hb 0; omega) (by have := hb 0; omega) (by
    intro c hc
    have hc' := List.mem_of_mem_take hc
    obtain ⟨j, hj, rfl⟩ := List.getElem_of_mem (List.mem_of_mem_drop hc')
    have := hb j
    simpa [hj] using this)
  have hp : (2 : Int) ^ (6 + 8 * ((zs.drop 1).take i).length) ≤ 2 ^ (6 + 8 * i) := by
    have := Nat.pow_le_pow_right (n := 2) (by decide) (show 6 + 8 * ((zs.drop 1).take i).length ≤ 6 + 8 * i by omega)
    exact_mod_cast this
  have hq : (2 : Int) ^ (6 + 8 * i) ≤ 4611686018427387904 := by
    have e : (2 : Int) ^ 62 = 4611686018427387904 := by decide
    have hn := Nat.pow_le_pow_right (n := 2) (by decide) (show 6 + 8 * i ≤ 62 by omega)
    have hz := Int.ofNat_le.2 hn
    rw [Int.natCast_pow, Int.natCast_pow] at hz
    exact Int.le_trans hz (Int.le_of_eq e)
  unfold told
  omega

theorem told_low (zs : List Int) (i : Nat) (hi : i ≤ 6) (hb : ∀ j : Nat, 0 ≤ zs[j]?.getD 0 ∧ zs[j]?.getD 0 ≤ 255) : told zs i < 72057594037927936 := by
  have h := (told_bound zs i (by omega) hb).2.1
  have e : (2 : Int) ^ 54 ≤ 72057594037927936 := by decide
  have hn := Nat.pow_le_pow_right (n := 2) (by decide) (show 6 + 8 * i ≤ 54 by omega)
  have hz := Int.ofNat_le.2 hn
  rw [Int.natCast_pow, Int.natCast_pow] at hz
  exact Int.lt_of_lt_of_le h (Int.le_trans hz e)

/-- One more byte, by moving and joining bits. -/
theorem join8 (n c : Int) (h0 : 0 ≤ n) (h1 : n < 72057594037927936) (h2 : 0 ≤ c) (h3 : c ≤ 255) : bits .or .u64 (n * 256) c = 256 * n + c := by
  rw [u64_or _ _ (by omega) (by omega) (by omega) (by omega)]
  have hx : (n * 256).toNat % 2 ^ 8 = 0 := by omega
  rw [nat_join 8 _ _ hx (by omega)]
  omega

theorem mask63 (c : Int) (h0 : 0 ≤ c) (h1 : c ≤ 255) : bits .and .u8 c 63 = c % 64 := by
  rw [u8_and _ _ (by omega) (by omega) (by omega) (by omega)]
  have : (63 : Int).toNat = 63 := rfl
  rw [this, nat_mask6]
  omega

/-- The two highest bits of a byte, joined to what stands below them. -/
theorem or_kind (x k : Int) (h0 : 0 ≤ x) (h1 : x < 64) (hk0 : 0 ≤ k) (hk : k ≤ 3) : bits .or .u8 x (k * 64) = k * 64 + x := by
  rw [u8_or _ _ (by omega) (by omega) (by omega) (by omega), Nat.or_comm]
  have hx : (k * 64).toNat % 2 ^ 6 = 0 := by omega
  rw [nat_join 6 _ _ hx (by omega)]
  omega

/-- The bytes of a number, in as few as can be. -/
def putL (n : Int) : List Int :=
  if n < 64 then [n] else if n < 16384 then [64 + n / 256, n % 256]
  else if n < 1073741824 then [128 + n / 16777216, n / 65536 % 256, n / 256 % 256, n % 256]
  else [192 + n / 72057594037927936, n / 281474976710656 % 256, n / 1099511627776 % 256, n / 4294967296 % 256, n / 16777216 % 256, n / 65536 % 256, n / 256 % 256, n % 256]
end

section
open Go

/-- The bytes of 7 bits of a number, the lowest bits first: 128 more in each but the last one. -/
def sev : Nat → Int → List Int
  | 0, r => [r]
  | f + 1, r => if r < 128 then [r] else (r % 128 + 128) :: sev f (r / 128)

theorem sev_last (f : Nat) (r : Int) (h : r < 128) : sev f r = [r] := by
  cases f with
  | zero => rfl
  | succ f => unfold sev; rw [if_pos h]

theorem sev_more (f : Nat) (r : Int) (h : 128 ≤ r) : sev (f + 1) r = (r % 128 + 128) :: sev f (r / 128) := by
  rw [sev, if_neg (by omega)]

theorem sev_len (f : Nat) : ∀ r : Int, 1 ≤ (sev f r).length ∧ (sev f r).length ≤ f + 1 := by
  induction f with
  | zero => intro r; simp [sev]
  | succ f ih =>
    intro r
    unfold sev
    split
    · simp
    · have := ih (r / 128)
      simp only [List.length_cons]
      omega

def pw : Nat → Int
  | 0 => 64
  | f + 1 => 128 * pw f
theorem pw_nine : pw 9 = 590295810358705651712 := by decide

theorem or128 (r : Int) (h0 : 0 ≤ r) : bits .or .u8 (r % 256) 128 = r % 128 + 128 := by
  rw [u8_or _ _ (by omega) (by omega) (by omega) (by omega)]
  have e : (r % 256).toNat = (r.toNat % 256) := by omega
  have e2 : (128 : Int).toNat = 128 := rfl
  rw [e, e2]
  have h : r.toNat % 256 ||| 128 = 128 + r.toNat % 128 := by
    by_cases hb : r.toNat % 256 < 128
    · rw [Nat.or_comm, nat_join 7 128 (r.toNat % 256) (by decide) (by omega)]; omega
    · have e3 : r.toNat % 256 = 128 ||| (r.toNat % 128) := by rw [nat_join 7 128 _ (by decide) (by omega)]; omega
      rw [e3, Nat.or_comm, ← Nat.or_assoc, Nat.or_self, nat_join 7 128 _ (by decide) (by omega)]
  rw [h]
  omega

theorem mask7f (c : Int) (h0 : 0 ≤ c) (h1 : c ≤ 255) : bits .and .u8 c 127 = c % 128 := by
  rw [u8_and _ _ (by omega) (by omega) (by omega) (by omega)]
  have : (127 : Int).toNat = 127 := rfl
  rw [this, nat_mask7]
  omega

/-- M is the number whose b lowest bits are set, b from 1 to 8. -/
def IsMask (b M : Int) : Prop := (b = 1 ∧ M = 1) ∨ (b = 2 ∧ M = 3) ∨ (b = 3 ∧ M = 7) ∨ (b = 4 ∧ M = 15) ∨ (b = 5 ∧ M = 31) ∨ (b = 6 ∧ M = 63) ∨ (b = 7 ∧ M = 127) ∨ (b = 8 ∧ M = 255)

theorem IsMask.of (b : Int) (h0 : 1 ≤ b) (h1 : b ≤ 8) : ∃ M, IsMask b M := by
  rcases (show b = 1 ∨ b = 2 ∨ b = 3 ∨ b = 4 ∨ b = 5 ∨ b = 6 ∨ b = 7 ∨ b = 8 by omega) with h | h | h | h | h | h | h | h
  · exact ⟨1, .inl ⟨h, rfl⟩⟩
  · exact ⟨3, .inr (.inl ⟨h, rfl⟩)⟩
  · exact ⟨7, .inr (.inr (.inl ⟨h, rfl⟩))⟩
  · exact ⟨15, .inr (.inr (.inr (.inl ⟨h, rfl⟩)))⟩
  · exact ⟨31, .inr (.inr (.inr (.inr (.inl ⟨h, rfl⟩))))⟩
  · exact ⟨63, .inr (.inr (.inr (.inr (.inr (.inl ⟨h, rfl⟩)))))⟩
  · exact ⟨127, .inr (.inr (.inr (.inr (.inr (.inr (.inl ⟨h, rfl⟩))))))⟩
  · exact ⟨255, .inr (.inr (.inr (.inr (.inr (.inr (.inr ⟨h, rfl⟩))))))⟩

theorem IsMask.bd {b M : Int} (h : IsMask b M) : 1 ≤ b ∧ b ≤ 8 ∧ 1 ≤ M ∧ M ≤ 255 := by unfold IsMask at h; omega

/-- M is 2^k - 1. -/
theorem IsMask.nat {b M : Int} (h : IsMask b M) : ∃ k : Nat, 1 ≤ k ∧ k ≤ 8 ∧ M + 1 = (2 ^ k : Nat) ∧ b = k := by
  unfold IsMask at h
  rcases h with ⟨rfl, rfl⟩ | ⟨rfl, rfl⟩ | ⟨rfl, rfl⟩ | ⟨rfl, rfl⟩ | ⟨rfl, rfl⟩ | ⟨rfl, rfl⟩ | ⟨rfl, rfl⟩ | ⟨rfl, rfl⟩
  · exact ⟨1, by decide, by decide, rfl, rfl⟩
  · exact ⟨2, by decide, by decide, rfl, rfl⟩
  · exact ⟨3, by decide, by decide, rfl, rfl⟩
  · exact ⟨4, by decide, by decide, rfl, rfl⟩
  · exact ⟨5, by decide, by decide, rfl, rfl⟩
  · exact ⟨6, by decide, by decide, rfl, rfl⟩
  · exact ⟨7, by decide, by decide, rfl, rfl⟩
  · exact ⟨8, by decide, by decide, rfl, rfl⟩

theorem modNat (c : Int) (m : Nat) (h0 : 0 ≤ c) : c % (m : Int) = ((c.toNat % m : Nat) : Int) := by
  rw [Int.natCast_emod]
  congr 1
  omega

theorem IsMask.and64 {b M : Int} (h : IsMask b M) (c : Int) (h0 : 0 ≤ c) (h1 : c ≤ 255) : bits .and .u64 c M = c % (M + 1) := by
  obtain ⟨k, _, _, hk, _⟩ := h.nat
  have hb := h.bd
  rw [u64_and _ _ (by omega) (by omega) (by omega) (by omega)]
  have e : M.toNat = 2 ^ k - 1 := by omega
  rw [e, Nat.and_two_pow_sub_one_eq_mod, hk, modNat c _ h0]

theorem IsMask.or8 {b M : Int} (h : IsMask b M) (c y : Int) (h0 : 0 ≤ c) (h1 : c ≤ 255) (hc : c % (M + 1) = 0) (hy0 : 0 ≤ y) (hy : y ≤ M) : bits .or .u8 c y = c + y := by
  obtain ⟨k, _, _, hk, _⟩ := h.nat
  have hb := h.bd
  rw [u8_or _ _ (by omega) (by omega) (by omega) (by omega)]
  rw [hk, modNat c _ h0] at hc
  rw [nat_join k _ _ (by omega) (by omega)]
  omega

theorem andNot_all : ∀ k, k < 9 → ∀ a, a < 256 → a &&& (255 - (2 ^ k - 1)) = a - a % 2 ^ k := by decide +kernel

theorem IsMask.andNot8 {b M : Int} (h : IsMask b M) (c : Int) (h0 : 0 ≤ c) (h1 : c ≤ 255) : bits .andNot .u8 c M = c - c % (M + 1) := by
  obtain ⟨k, _, hk8, hk, _⟩ := h.nat
  have hb := h.bd
  rw [u8_andNot _ _ (by omega) (by omega) (by omega) (by omega)]
  have e : M.toNat = 2 ^ k - 1 := by omega
  rw [e, andNot_all k (by omega) _ (by omega), hk, modNat c _ h0]
  have : c.toNat % 2 ^ k ≤ c.toNat := Nat.mod_le _ _
  omega

theorem IsMask.le {b M : Int} (h : IsMask b M) (c : Int) (h0 : 0 ≤ c) : c % (M + 1) ≤ c := by
  unfold IsMask at h
  rcases h with ⟨rfl, rfl⟩ | ⟨rfl, rfl⟩ | ⟨rfl, rfl⟩ | ⟨rfl, rfl⟩ | ⟨rfl, rfl⟩ | ⟨rfl, rfl⟩ | ⟨rfl, rfl⟩ | ⟨rfl, rfl⟩ <;> omega

/-- The bytes of a number that begins in what is left of a byte. -/
def putP (first M n : Int) : List Int := if n < M then [first + n] else (first + M) :: sev 9 (n - M)
end

section
open Go

/-- The number that bytes of 7 bits tell, the lowest bits first. -/
def val7 : List Int → Int
  | [] => 0
  | c :: r => c % 128 + 128 * val7 r

/-- How many bytes of 128 or above stand ahead. -/
def cnt : List Int → Nat
  | [] => 0
  | c :: r => if 128 ≤ c then cnt r + 1 else 0

theorem cnt_le : ∀ l : List Int, cnt l ≤ l.length
  | [] => Nat.le_refl _
  | c :: r => by
    have := cnt_le r
    unfold cnt
    split <;> simp <;> omega

theorem cnt_ahead : ∀ (l : List Int) (j : Nat), j < cnt l → 128 ≤ l[j]?.getD 0
  | [], j, h => by simp [cnt] at h
  | c :: r, j, h => by
    unfold cnt at h
    split at h
    · rename_i hc
      cases j with
      | zero => simpa using hc
      | succ j => have := cnt_ahead r j (by omega); simpa using this
    · omega

theorem cnt_last : ∀ l : List Int, cnt l < l.length → l[cnt l]?.getD 0 < 128
  | [], h => by simp [cnt] at h
  | c :: r, h => by
    by_cases hc : 128 ≤ c
    · have e : cnt (c :: r) = cnt r + 1 := by rw [cnt, if_pos hc]
      rw [e] at h ⊢
      have := cnt_last r (by simpa using h)
      simpa using this
    · have e : cnt (c :: r) = 0 := by rw [cnt, if_neg hc]
      rw [e]
      simp
      omega

/-- Where the first byte below 128 stands. -/
theorem cnt_eq (l : List Int) (k : Nat) (h : k < l.length) (ha : ∀ j, j < k → 128 ≤ l[j]?.getD 0) (hk : l[k]?.getD 0 < 128) : cnt l = k := by
  rcases Nat.lt_trichotomy (cnt l) k with h1 | h1 | h1
  · have h2 := cnt_last l (by omega)
    have h3 := ha _ h1
    omega
  · exact h1
  · have h2 := cnt_ahead l k h1
    omega

theorem cnt_ge (l : List Int) (k : Nat) (h : k ≤ l.length) (ha : ∀ j, j < k → 128 ≤ l[j]?.getD 0) : k ≤ cnt l := by
  rcases Nat.lt_or_ge (cnt l) k with h1 | h1
  · have h2 := cnt_last l (by omega)
    have h3 := ha _ h1
    omega
  · exact h1

theorem val7_snoc (c : Int) : ∀ l : List Int, val7 (l ++ [c]) = val7 l + c % 128 * 2 ^ (7 * l.length)
  | [] => by simp [val7]
  | a :: r => by
    have ih := val7_snoc c r
    have e : (2 : Int) ^ (7 * (a :: r).length) = 128 * 2 ^ (7 * r.length) := by
      rw [List.length_cons, show 7 * (r.length + 1) = 7 * r.length + 7 by omega, Int.pow_add, Int.mul_comm]
      rfl
    simp only [List.cons_append, val7, ih, e, Int.mul_add, ← Int.mul_assoc]
    rw [Int.mul_comm 128 (c % 128), Int.add_assoc]

theorem val7_take (zs : List Int) (m : Nat) (h : m < zs.length) : val7 (zs.take (m + 1)) = val7 (zs.take m) + zs[m]?.getD 0 % 128 * 2 ^ (7 * m) := by
  rw [take_snoc zs m h, val7_snoc]
  rw [show (zs.take m).length = m by simp; omega]

theorem val7_bound : ∀ l : List Int, 0 ≤ val7 l ∧ val7 l < 2 ^ (7 * l.length)
  | [] => by simp [val7]
  | a :: r => by
    have ih := val7_bound r
    have e : (2 : Int) ^ (7 * (a :: r).length) = 128 * 2 ^ (7 * r.length) := by
      rw [List.length_cons, show 7 * (r.length + 1) = 7 * r.length + 7 by omega, Int.pow_add, Int.mul_comm]
      rfl
    rw [e]
    simp only [val7]
    omega

theorem pow_le (a b : Nat) (h : a ≤ b) : (2 : Int) ^ a ≤ 2 ^ b := by
  have hn := Nat.pow_le_pow_right (n := 2) (by decide) h
  have hz := Int.ofNat_le.2 hn
  rw [Int.natCast_pow, Int.natCast_pow] at hz
  exact hz

/-- Seven bits more, by moving and joining. -/
theorem join7 (n p : Int) (m : Nat) (hm : m ≤ 8) (h0 : 0 ≤ n) (h1 : n < 2 ^ (7 * m)) (hp0 : 0 ≤ p) (hp : p < 128) : bits .or .u64 n (IntKind.u64.wrap (p * 2 ^ (7 * m))) = n + p * 2 ^ (7 * m) := by
  have hpow : (2 : Int) ^ (7 * m) ≤ 2 ^ 56 := pow_le _ _ (by omega)
  have e56 : (2 : Int) ^ 56 = 72057594037927936 := by decide
  have hpos : (0 : Int) < 2 ^ (7 * m) := Int.pow_pos (by decide)
  have hmul0 : 0 ≤ p * 2 ^ (7 * m) := Int.mul_nonneg hp0 (by omega)
  have hmul : p * 2 ^ (7 * m) ≤ 127 * 2 ^ (7 * m) := Int.mul_le_mul_of_nonneg_right (by omega) (by omega)
  have hw : IntKind.u64.wrap (p * 2 ^ (7 * m)) = p * 2 ^ (7 * m) := by
    rw [IntKind.wrap_u64]; omega
  rw [hw, u64_or _ _ (by omega) (by omega) (by omega) (by omega), Nat.or_comm]
  have hc : (2 : Int) ^ (7 * m) = ((2 ^ (7 * m) : Nat) : Int) := by rw [Int.natCast_pow]; rfl
  have e1 : (p * 2 ^ (7 * m)).toNat = p.toNat * 2 ^ (7 * m) := by
    rw [hc, ← Int.toNat_of_nonneg hp0, ← Int.natCast_mul, Int.toNat_natCast, Int.toNat_natCast]
  have h2 : n.toNat < 2 ^ (7 * m) := by omega
  rw [e1, nat_join (7 * m) _ _ (by rw [Nat.mul_mod_left]) h2]
  have e3 : ((p.toNat * 2 ^ (7 * m) : Nat) : Int) = p * 2 ^ (7 * m) := by
    rw [Int.natCast_mul, Int.toNat_of_nonneg hp0, ← hc]
  rw [Int.natCast_add, e3, Int.toNat_of_nonneg h0]
  omega
end

end Go.Proofs.YtiecpkkklefjdaaGreatDoor.Vi
