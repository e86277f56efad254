/-
  The first 64 primes, their roots, and how they are found: no program in sight.
-/
import Derived.Test.YtdieodhfkmnbcaaGreatDoorShaPlain
namespace Go.Proofs.YtdieodhfkmnbcaaGreatDoor
open Go

def P64 : List Nat := [2, 3, 5, 7, 11, 13, 17, 19, 23, 29, 31, 37, 41, 43, 47, 53, 59, 61, 67, 71, 73, 79, 83, 89, 97, 101, 103, 107, 109, 113, 127, 131, 137, 139, 149, 151, 157, 163, 167, 173, 179, 181, 191, 193, 197, 199, 211, 223, 227, 229, 233, 239, 241, 251, 257, 263, 269, 271, 277, 281, 283, 293, 307, 311]
def cubeRoots : List Nat := [5411319704, 6194414737, 7344290767, 8215976869, 9551921755, 10098905585, 11043570340, 11460697813, 12214315672, 13195500289, 13492127166, 14311783875, 14809980276, 15046980094, 15499789991, 16133124468, 16720292289, 16907126662, 17444216262, 17784676812, 17950125167, 18429019306, 18734950876, 19175934170, 19734090066, 20001703533, 20132865992, 20390182855, 20516441075, 20764397895, 21588763473, 21813078375, 22141143685, 22248366392, 22769593852, 22871018771, 23170020180, 23461497531, 23651862830, 23931792517, 24205322401, 24295138891, 24734567280, 24820601251, 24990902297, 25075189284, 25569408389, 26045227120, 26200031510, 26276752392, 26428864332, 26653801653, 26727943347, 27092625994, 27306805839, 27517677555, 27725365998, 27793908591, 27997534228, 28131656200, 28198240250, 28526537963, 28973835255, 29099129074]
def squareRoots : List Nat := [6074000999, 7439101573, 9603838834, 11363415354, 14244795007, 15485724812, 17708603819, 18721328409]
/-- The words K and H. -/
def KW : List Wd := [1116352408, 1899447441, 3049323471, 3921009573, 961987163, 1508970993, 2453635748, 2870763221, 3624381080, 310598401, 607225278, 1426881987, 1925078388, 2162078206, 2614888103, 3248222580, 3835390401, 4022224774, 264347078, 604807628, 770255983, 1249150122, 1555081692, 1996064986, 2554220882, 2821834349, 2952996808, 3210313671, 3336571891, 3584528711, 113926993, 338241895, 666307205, 773529912, 1294757372, 1396182291, 1695183700, 1986661051, 2177026350, 2456956037, 2730485921, 2820302411, 3259730800, 3345764771, 3516065817, 3600352804, 4094571909, 275423344, 430227734, 506948616, 659060556, 883997877, 958139571, 1322822218, 1537002063, 1747873779, 1955562222, 2024104815, 2227730452, 2361852424, 2428436474, 2756734187, 3204031479, 3329325298]
def HW : List Wd := [1779033703, 3144134277, 1013904242, 2773480762, 1359893119, 2600822924, 528734635, 1541459225]
theorem P64_length : P64.length = 64 := by decide +kernel
theorem KW_length : KW.length = 64 := by decide +kernel
theorem HW_length : HW.length = 8 := by decide +kernel

/-- How many primes lie below n. -/
def cntB (n : Nat) : Nat := (P64.filter fun p => decide (p < n)).length
/-- Does one of them divide n? -/
def comp (n : Nat) : Bool := (List.range (cntB n)).any fun j => n % gn P64 j == 0
theorem cntB_all : ∀ n, n < 313 → 2 ≤ n → cntB n ≤ 64 ∧ (n = 312 ↔ cntB n = 64) := by decide +kernel
theorem comp_all : ∀ n, n < 312 → 2 ≤ n → (comp n = true → cntB (n + 1) = cntB n) ∧ (comp n = false → cntB (n + 1) = cntB n + 1 ∧ P64[cntB n]? = some n) := by decide +kernel
theorem P64_bd : ∀ j, j < 64 → 2 ≤ gn P64 j ∧ gn P64 j ≤ 311 := by decide +kernel
theorem P64_bd8 : ∀ j, j < 8 → 2 ≤ gn P64 j ∧ gn P64 j ≤ 19 := by decide +kernel
theorem comp_yes (n j : Nat) (hj : j < cntB n) (h : n % gn P64 j = 0) : comp n = true := by
  unfold comp
  rw [List.any_eq_true]
  exact ⟨j, List.mem_range.2 hj, by simp [h]⟩
theorem comp_no (n : Nat) (h : ∀ j, j < cntB n → n % gn P64 j ≠ 0) : comp n = false := by
  unfold comp
  rw [List.any_eq_false]
  intro j hj
  simp [h j (List.mem_range.1 hj)]

/-- The row while primes are looked for. -/
def foundR (c : Nat) : List Nat := P64.take c ++ List.replicate (64 - c) 0
theorem foundR_length (c : Nat) (h : c ≤ 64) : (foundR c).length = 64 := by simp [foundR, P64_length]; omega
theorem foundR_get (c j : Nat) (hc : c ≤ 64) (h : j < c) : gn (foundR c) j = gn P64 j := by
  unfold gn foundR
  rw [List.getElem?_append_left (by rw [List.length_take, P64_length]; omega), List.getElem?_take, if_pos h]
theorem foundR_set (c n : Nat) (hc : c < 64) (h : P64[c]? = some n) : (foundR c).set c n = foundR (c + 1) := fill_set P64 0 c 64 P64_length hc n h
theorem foundR_all : foundR 64 = P64 := by
  unfold foundR
  rw [List.take_of_length_le (by rw [P64_length]; exact Nat.le_refl _)]
  simp

theorem cubeRoots_ok : ∀ j, j < 64 → gn P64 j * 79228162514264337593543950336 < (gn cubeRoots j + 1) * (gn cubeRoots j + 1) * (gn cubeRoots j + 1) ∧ gn cubeRoots j * gn cubeRoots j * gn cubeRoots j ≤ gn P64 j * 79228162514264337593543950336 ∧ gw KW j = BitVec.ofNat 32 (gn cubeRoots j) := by decide +kernel
theorem squareRoots_ok : ∀ j, j < 8 → gn P64 j * 18446744073709551616 < (gn squareRoots j + 1) * (gn squareRoots j + 1) ∧ gn squareRoots j * gn squareRoots j ≤ gn P64 j * 18446744073709551616 ∧ gw HW j = BitVec.ofNat 32 (gn squareRoots j) := by decide +kernel

theorem mono3 {a b : Nat} (h : a ≤ b) : a * a * a ≤ b * b * b := Nat.mul_le_mul (Nat.mul_le_mul h h) h
theorem cube_root_one (j r : Nat) (hj : j < 64) (h1 : r * r * r ≤ gn P64 j * 79228162514264337593543950336) (h2 : gn P64 j * 79228162514264337593543950336 < (r + 1) * (r + 1) * (r + 1)) : r = gn cubeRoots j := by
  obtain ⟨k2, k1, _⟩ := cubeRoots_ok j hj
  rcases Nat.lt_trichotomy r (gn cubeRoots j) with h | h | h
  · have := mono3 (show r + 1 ≤ gn cubeRoots j by omega); omega
  · exact h
  · have := mono3 (show gn cubeRoots j + 1 ≤ r by omega); omega
theorem square_root_one (j r : Nat) (hj : j < 8) (h1 : r * r ≤ gn P64 j * 18446744073709551616) (h2 : gn P64 j * 18446744073709551616 < (r + 1) * (r + 1)) : r = gn squareRoots j := by
  obtain ⟨k2, k1, _⟩ := squareRoots_ok j hj
  rcases Nat.lt_trichotomy r (gn squareRoots j) with h | h | h
  · have := Nat.mul_le_mul (show r + 1 ≤ gn squareRoots j by omega) (show r + 1 ≤ gn squareRoots j by omega); omega
  · exact h
  · have := Nat.mul_le_mul (show gn squareRoots j + 1 ≤ r by omega) (show gn squareRoots j + 1 ≤ r by omega); omega
end Go.Proofs.YtdieodhfkmnbcaaGreatDoor
