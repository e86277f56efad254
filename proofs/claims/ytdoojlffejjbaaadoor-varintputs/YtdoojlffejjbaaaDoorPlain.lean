/-
  Plain arithmetic on lists of bytes for layer 1: no program in sight.
-/
import Derived.Laws.BitsAllLaws
namespace Go.Proofs.YtdoojlffejjbaaaDoor
open Go

/-- How many bytes a number has, by its first byte. -/
def klen (z : Int) : Nat := if z < 64 then 1 else if z < 128 then 2 else if z < 192 then 4 else 8

/-- The number that bytes tell, the highest first, behind what is told already. -/
def acc (n : Int) : List Int → Int
  | [] => n
  | c :: r => acc (256 * n + c) r

theorem acc_snoc (n : Int) (l : List Int) (c : Int) : acc n (l ++ [c]) = 256 * acc n l + c := by
  induction l generalizing n with
  | nil => rfl
  | cons a r ih => exact ih (256 * n + a)

def isBytes (l : List Int) : Prop := ∀ c ∈ l, 0 ≤ c ∧ c ≤ 255

theorem acc_bound (l : List Int) : ∀ (n : Int) (m : Nat), 0 ≤ n → n < 2 ^ m → isBytes l → 0 ≤ acc n l ∧ acc n l < 2 ^ (m + 8 * l.length) := by
  induction l with
  | nil => intro n m h0 h1 _; exact ⟨h0, by simpa [acc] using h1⟩
  | cons c r ih =>
    intro n m h0 h1 hb
    have hc := hb c (by simp)
    have h2 := ih (256 * n + c) (m + 8) (by omega) (by
      have : (2 : Int) ^ (m + 8) = 2 ^ m * 256 := by rw [Int.pow_add]; rfl
      omega) (fun x hx => hb x (by simp [hx]))
    have e : m + 8 + 8 * r.length = m + 8 * (c :: r).length := by simp; omega
    rw [e] at h2
    exact h2

theorem klen_cases (z : Int) : klen z = 1 ∨ klen z = 2 ∨ klen z = 4 ∨ klen z = 8 := by
  unfold klen; repeat (first | split | simp)

theorem klen_le (z : Int) : 1 ≤ klen z ∧ klen z ≤ 8 := by
  rcases klen_cases z with h | h | h | h <;> omega

theorem take_snoc (zs : List Int) (k : Nat) (h : k < zs.length) : zs.take (k + 1) = zs.take k ++ [zs[k]?.getD 0] := by
  rw [List.take_succ_eq_append_getElem h]
  simp [h]

/-- What is told by the first 1 + i bytes. -/
def told (zs : List Int) (i : Nat) : Int := acc (zs[0]?.getD 0 % 64) ((zs.drop 1).take i)

theorem told_zero (zs : List Int) : told zs 0 = zs[0]?.getD 0 % 64 := by simp [told, acc]

theorem told_succ (zs : List Int) (i : Nat) (h : i + 1 < zs.length) : told zs (i + 1) = 256 * told zs i + zs[i + 1]?.getD 0 := by
  unfold told
  rw [take_snoc (zs.drop 1) i (by simp; omega), acc_snoc]
  simp

theorem told_bound (zs : List Int) (i : Nat) (hi : i ≤ 7) (hb : ∀ j : Nat, 0 ≤ zs[j]?.getD 0 ∧ zs[j]?.getD 0 ≤ 255) : 0 ≤ told zs i ∧ told zs i < 2 ^ (6 + 8 * i) ∧ told zs i < 4611686018427387904 := by
  have hl : ((zs.drop 1).take i).length ≤ i := by simp; omega
  have h := acc_bound ((zs.drop 1).take i) (zs[0]?.getD 0 % 64) 6 (by have := hb 0; omega) (by have := hb 0; omega) (by
    intro c hc
    have hc' := List.mem_of_mem_take hc
    obtain ⟨j, hj, rfl⟩ := List.getElem_of_mem (List.mem_of_mem_drop hc')
    have := hb j
    simpa [hj] using this)
  have hp : (2 : Int) ^ (6 + 8 * ((zs.drop 1).take i).length) ≤ 2 ^ (6 + 8 * i) := by
    have := Nat.pow_le_pow_right (n := 2) (by decide) (show 6 + 8 * ((zs.drop 1).take i).length ≤ 6 + 8 * i by omega)
    exact_mod_cast this
  have hq : (2 : Int) ^ (6 + 8 * i) ≤ 4611686018427387904 := by
    have e : (2 : Int) ^ 62 = 4611686018427387904 := by decide
    have hn := Nat.pow_le_pow_right (n := 2) (by decide) (show 6 + 8 * i ≤ 62 by omega)
    have hz := Int.ofNat_le.2 hn
    rw [Int.natCast_pow, Int.natCast_pow] at hz
    exact Int.le_trans hz (Int.le_of_eq e)
  unfold told
  omega

theorem told_low (zs : List Int) (i : Nat) (hi : i ≤ 6) (hb : ∀ j : Nat, 0 ≤ zs[j]?.getD 0 ∧ zs[j]?.getD 0 ≤ 255) : told zs i < 72057594037927936 := by
  have h := (told_bound zs i (by omega) hb).2.1
  have e : (2 : Int) ^ 54 ≤ 72057594037927936 := by decide
  have hn := Nat.pow_le_pow_right (n := 2) (by decide) (show 6 + 8 * i ≤ 54 by omega)
  have hz := Int.ofNat_le.2 hn
  rw [Int.natCast_pow, Int.natCast_pow] at hz
  exact Int.lt_of_lt_of_le h (Int.le_trans hz e)

/-- One more byte, by moving and joining bits. -/
theorem join8 (n c : Int) (h0 : 0 ≤ n) (h1 : n < 72057594037927936) (h2 : 0 ≤ c) (h3 : c ≤ 255) : bits .or .u64 (n * 256) c = 256 * n + c := by
  rw [u64_or _ _ (by omega) (by omega) (by omega) (by omega)]
  have hx : (n * 256).toNat % 2 ^ 8 = 0 := by omega
  rw [nat_join 8 _ _ hx (by omega)]
  omega

theorem mask63 (c : Int) (h0 : 0 ≤ c) (h1 : c ≤ 255) : bits .and .u8 c 63 = c % 64 := by
  rw [u8_and _ _ (by omega) (by omega) (by omega) (by omega)]
  have : (63 : Int).toNat = 63 := rfl
  rw [this, nat_mask6]
  omega

/-- The two highest bits of a byte, joined to what stands below them. -/
theorem or_kind (x k : Int) (h0 : 0 ≤ x) (h1 : x < 64) (hk0 : 0 ≤ k) (hk : k ≤ 3) : bits .or .u8 x (k * 64) = k * 64 + x := by
  rw [u8_or _ _ (by omega) (by omega) (by omega) (by omega), Nat.or_comm]
  have hx : (k * 64).toNat % 2 ^ 6 = 0 := by omega
  rw [nat_join 6 _ _ hx (by omega)]
  omega

/-- The bytes of a number, in as few as can be. -/
def putL (n : Int) : List Int :=
  if n < 64 then [n] else if n < 16384 then [64 + n / 256, n % 256]
  else if n < 1073741824 then [128 + n / 16777216, n / 65536 % 256, n / 256 % 256, n % 256]
  else [192 + n / 72057594037927936, n / 281474976710656 % 256, n / 1099511627776 % 256, n / 4294967296 % 256, n / 16777216 % 256, n / 65536 % 256, n / 256 % 256, n % 256]

end Go.Proofs.YtdoojlffejjbaaaDoor
