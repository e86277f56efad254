/-
  Plain arithmetic: what was put is got.
-/
import Derived.Test.YtmgmejbjekojnaaDoorGet
namespace Go.Proofs.YtmgmejbjekojnaaDoor
open Go.RowKit

theorem putL_cases (n : Int) (h0 : 0 ≤ n) (h1 : n < 4611686018427387904) :
    (n < 64 ∧ putL n = [n]) ∨ (64 ≤ n ∧ n < 16384 ∧ putL n = [64 + n / 256, n % 256]) ∨
    (16384 ≤ n ∧ n < 1073741824 ∧ putL n = [128 + n / 16777216, n / 65536 % 256, n / 256 % 256, n % 256]) ∨
    (1073741824 ≤ n ∧ putL n = [192 + n / 72057594037927936, n / 281474976710656 % 256, n / 1099511627776 % 256, n / 4294967296 % 256, n / 16777216 % 256, n / 65536 % 256, n / 256 % 256, n % 256]) := by
  unfold putL
  by_cases c1 : n < 64
  · rw [if_pos c1]; exact .inl ⟨c1, rfl⟩
  by_cases c2 : n < 16384
  · rw [if_neg c1, if_pos c2]; exact .inr (.inl ⟨by omega, c2, rfl⟩)
  by_cases c3 : n < 1073741824
  · rw [if_neg c1, if_neg c2, if_pos c3]; exact .inr (.inr (.inl ⟨by omega, c3, rfl⟩))
  · rw [if_neg c1, if_neg c2, if_neg c3]; exact .inr (.inr (.inr ⟨by omega, rfl⟩))

theorem putL_bytes (n : Int) (h0 : 0 ≤ n) (h1 : n < 4611686018427387904) : ∀ c ∈ putL n, 0 ≤ c ∧ c ≤ 255 := by
  rcases putL_cases n h0 h1 with ⟨a, e⟩ | ⟨a, a2, e⟩ | ⟨a, a2, e⟩ | ⟨a, e⟩
  all_goals
    rw [e]
    intro c hc
    simp only [List.mem_cons, List.not_mem_nil, or_false] at hc
    omega

/-- How many bytes the first byte tells. -/
theorem putL_klen (n : Int) (h0 : 0 ≤ n) (h1 : n < 4611686018427387904) : klen ((putL n)[0]?.getD 0) = (putL n).length := by
  rcases putL_cases n h0 h1 with ⟨a, e⟩ | ⟨a, a2, e⟩ | ⟨a, a2, e⟩ | ⟨a, e⟩
  all_goals rw [e]
  · show klen n = 1
    unfold klen; rw [if_pos a]
  · show klen (64 + n / 256) = 2
    unfold klen; rw [if_neg (by omega), if_pos (by omega)]
  · show klen (128 + n / 16777216) = 4
    unfold klen; rw [if_neg (by omega), if_neg (by omega), if_pos (by omega)]
  · show klen (192 + n / 72057594037927936) = 8
    unfold klen; rw [if_neg (by omega), if_neg (by omega), if_neg (by omega)]

/-- The number that they tell, whatever stands behind. -/
theorem putL_told (n : Int) (more : List Int) (h0 : 0 ≤ n) (h1 : n < 4611686018427387904) : told (putL n ++ more) ((putL n).length - 1) = n := by
  rcases putL_cases n h0 h1 with ⟨a, e⟩ | ⟨a, a2, e⟩ | ⟨a, a2, e⟩ | ⟨a, e⟩
  all_goals rw [e]
  · show acc (n % 64) (List.take 0 more) = n
    simp only [List.take_zero, acc]
    omega
  · show acc ((64 + n / 256) % 64) [n % 256] = n
    simp only [acc]
    omega
  · show acc ((128 + n / 16777216) % 64) [n / 65536 % 256, n / 256 % 256, n % 256] = n
    simp only [acc]
    omega
  · show acc ((192 + n / 72057594037927936) % 64) [n / 281474976710656 % 256, n / 1099511627776 % 256, n / 4294967296 % 256, n / 16777216 % 256, n / 65536 % 256, n / 256 % 256, n % 256] = n
    simp only [acc]
    omega

theorem putL_pos (n : Int) : 0 < (putL n).length := by
  unfold putL
  repeat (first | split | simp)

theorem head_append (xs ys : List Int) (h : 0 < xs.length) : (xs ++ ys)[0]?.getD 0 = xs[0]?.getD 0 := by
  rw [List.getElem?_append_left h]

/-- What was put is got, whatever stands behind. -/
theorem getR_put (n : Int) (more : List Int) (h0 : 0 ≤ n) (h1 : n < 4611686018427387904) : getR (putL n ++ more) = (n, (putL n).length, 0) := by
  have hp := putL_pos n
  have hk := putL_klen n h0 h1
  unfold getR
  rw [head_append _ _ hp, hk, if_neg (by rw [List.length_append]; omega), if_neg (by rw [List.length_append]; omega), putL_told n more h0 h1]

/-- Of fewer bytes, none. -/
theorem getR_less (n : Int) (h0 : 0 ≤ n) (h1 : n < 4611686018427387904) : getR ((putL n).take ((putL n).length - 1)) = (0, 0, 4) := by
  have hp := putL_pos n
  have hk := putL_klen n h0 h1
  unfold getR
  by_cases hl : (putL n).length = 1
  · rw [if_pos (by rw [List.length_take]; omega)]
  · have e : ((putL n).take ((putL n).length - 1))[0]?.getD 0 = (putL n)[0]?.getD 0 := by rw [List.getElem?_take_of_lt (by omega)]
    rw [if_neg (by rw [List.length_take]; omega), e, hk, if_pos (by rw [List.length_take]; omega)]
end Go.Proofs.YtmgmejbjekojnaaDoor
