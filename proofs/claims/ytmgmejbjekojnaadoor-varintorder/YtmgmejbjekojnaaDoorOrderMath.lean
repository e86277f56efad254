/-
  Plain arithmetic: the greater number has the greater bytes.
-/
import Derived.Test.YtmgmejbjekojnaaDoorPutMath
namespace Go.Proofs.YtmgmejbjekojnaaDoor
open Go.RowKit

theorem acc_lt : ∀ (xs ys : List Int) (n m : Int), xs.length = ys.length → (∀ c ∈ xs, 0 ≤ c ∧ c ≤ 255) → (∀ c ∈ ys, 0 ≤ c ∧ c ≤ 255) → n < m → acc n xs < acc m ys
  | [], [], n, m, _, _, _, h => h
  | [], _ :: _, _, _, hl, _, _, _ => by simp at hl
  | _ :: _, [], _, _, hl, _, _, _ => by simp at hl
  | a :: r, b :: s, n, m, hl, hx, hy, h => by
    have ha := hx a (by simp)
    have hb := hy b (by simp)
    exact acc_lt r s (256 * n + a) (256 * m + b) (by simpa using hl) (fun c hc => hx c (by simp [hc])) (fun c hc => hy c (by simp [hc])) (by omega)

/-- The first byte that is another one decides. -/
theorem acc_first : ∀ (i : Nat) (xs ys : List Int) (n : Int), xs.length = ys.length → i < xs.length → (∀ c ∈ xs, 0 ≤ c ∧ c ≤ 255) → (∀ c ∈ ys, 0 ≤ c ∧ c ≤ 255) → xs.take i = ys.take i → xs[i]?.getD 0 < ys[i]?.getD 0 → acc n xs < acc n ys
  | _, [], _, _, _, hi, _, _, _, _ => by simp at hi
  | _, _ :: _, [], _, hl, _, _, _, _, _ => by simp at hl
  | 0, a :: r, b :: s, n, hl, _, hx, hy, _, h => by
    have h2 : a < b := by simpa using h
    exact acc_lt r s (256 * n + a) (256 * n + b) (by simpa using hl) (fun c hc => hx c (by simp [hc])) (fun c hc => hy c (by simp [hc])) (by omega)
  | i + 1, a :: r, b :: s, n, hl, hi, hx, hy, ht, h => by
    have e : a = b := by simp only [List.take_succ_cons, List.cons.injEq] at ht; exact ht.1
    have e2 : r.take i = s.take i := by simp only [List.take_succ_cons, List.cons.injEq] at ht; exact ht.2
    subst e
    exact acc_first i r s (256 * n + a) (by simpa using hl) (by simpa using hi) (fun c hc => hx c (by simp [hc])) (fun c hc => hy c (by simp [hc])) e2 (by simpa using h)

/-- A number's bytes: the kind, and the rest. -/
theorem putL_split (n : Int) (h0 : 0 ≤ n) (h1 : n < 4611686018427387904) : ∃ z rest, putL n = z :: rest ∧ n = acc (z % 64) rest ∧ z / 64 = (if rest.length = 0 then 0 else if rest.length = 1 then 1 else if rest.length = 3 then 2 else 3) := by
  rcases putL_cases n h0 h1 with ⟨a, e⟩ | ⟨a, a2, e⟩ | ⟨a, a2, e⟩ | ⟨a, e⟩
  · exact ⟨_, _, e, by simp only [acc]; omega, by simp; omega⟩
  · exact ⟨_, _, e, by simp only [acc]; omega, by simp; omega⟩
  · exact ⟨_, _, e, by simp only [acc]; omega, by simp; omega⟩
  · exact ⟨_, _, e, by simp only [acc]; omega, by simp; omega⟩

theorem putL_first (n m : Int) (i : Nat) (h0 : 0 ≤ n) (h1 : n < 4611686018427387904) (g0 : 0 ≤ m) (g1 : m < 4611686018427387904) (hl : (putL n).length = (putL m).length) (hi : i < (putL n).length) (ht : (putL n).take i = (putL m).take i) (h : (putL n)[i]?.getD 0 < (putL m)[i]?.getD 0) : n < m := by
  have bx := putL_bytes n h0 h1
  have byy := putL_bytes m g0 g1
  obtain ⟨z, r, e1, e2, e3⟩ := putL_split n h0 h1
  obtain ⟨y, s, f1, f2, f3⟩ := putL_split m g0 g1
  rw [e1] at bx hl hi ht h
  rw [f1] at byy hl ht h
  have hrs : r.length = s.length := by simpa using hl
  rw [hrs] at e3
  have hzy : z / 64 = y / 64 := by rw [e3, f3]
  have hxr : ∀ c ∈ r, 0 ≤ c ∧ c ≤ 255 := fun c hc => bx c (by simp [hc])
  have hys : ∀ c ∈ s, 0 ≤ c ∧ c ≤ 255 := fun c hc => byy c (by simp [hc])
  rw [e2, f2]
  cases i with
  | zero =>
    have h2 : z < y := by simpa using h
    exact acc_lt r s _ _ hrs hxr hys (by omega)
  | succ i =>
    have e : z = y := by simp only [List.take_succ_cons, List.cons.injEq] at ht; exact ht.1
    have e5 : r.take i = s.take i := by simp only [List.take_succ_cons, List.cons.injEq] at ht; exact ht.2
    subst e
    exact acc_first i r s _ hrs (by simpa using hi) hxr hys e5 (by simpa using h)

theorem putL_inj (n m : Int) (h0 : 0 ≤ n) (h1 : n < 4611686018427387904) (g0 : 0 ≤ m) (g1 : m < 4611686018427387904) (h : putL n = putL m) : n = m := by
  have e := putL_told n [] h0 h1
  have f := putL_told m [] g0 g1
  rw [h] at e
  rw [← e, f]

theorem putL_len_lt (n m : Int) (h0 : 0 ≤ n) (h1 : n < 4611686018427387904) (g0 : 0 ≤ m) (g1 : m < 4611686018427387904) (h : (putL n).length < (putL m).length) : n < m := by
  rcases putL_cases n h0 h1 with ⟨a, e⟩ | ⟨a, a2, e⟩ | ⟨a, a2, e⟩ | ⟨a, e⟩ <;> rcases putL_cases m g0 g1 with ⟨b, f⟩ | ⟨b, b2, f⟩ | ⟨b, b2, f⟩ | ⟨b, f⟩ <;> rw [e, f] at h <;> simp at h <;> omega
end Go.Proofs.YtmgmejbjekojnaaDoor
