/-
  Numbers of five words of 26 bits: no program in sight.
-/
import Derived.Test.YtholddbmnlnkkaaShaArr
import Derived.Test.YtholddbmnlnkkaaShaLoop
import Derived.Test.YtholddbmnlnkkaaRows
namespace Go.Proofs.Ytholddbmnlnkkaa
open Go

/-- The number of five words. -/
def V5 (xs : List Nat) : Nat := gn xs 0 + 67108864 * gn xs 1 + 4503599627370496 * gn xs 2 + 302231454903657293676544 * gn xs 3 + 20282409603651670423947251286016 * gn xs 4
/-- 2^130 - 5. -/
def PP : Nat := 1361129467683753853853498429727072845819
/-- Five words of 26 bits each. -/
structure Sm (xs : List Nat) : Prop where
  len : xs.length = 5
  lt : ∀ i, gn xs i < 67108864
theorem five {xs : List Nat} (h : xs.length = 5) : ∃ a b c d e, xs = [a, b, c, d, e] := by
  match xs, h with
  | [a, b, c, d, e], _ => exact ⟨a, b, c, d, e, rfl⟩
theorem gn_set (xs : List Nat) (i j x : Nat) : gn (xs.set i x) j = if i = j ∧ j < xs.length then x else gn xs j := by
  unfold gn
  rw [List.getElem?_set]
  by_cases h : i = j
  · subst h
    by_cases h2 : i < xs.length
    · simp [h2]
    · simp [h2]
  · simp [h]
theorem gn_set_same {xs : List Nat} {i : Nat} (h : i < xs.length) (x : Nat) : gn (xs.set i x) i = x := by rw [gn_set, if_pos ⟨rfl, h⟩]
theorem gn_set_ne {xs : List Nat} {i j : Nat} (h : i ≠ j) (x : Nat) : gn (xs.set i x) j = gn xs j := by rw [gn_set, if_neg (fun e => h e.1)]
theorem gn_out {xs : List Nat} {i : Nat} (h : xs.length ≤ i) : gn xs i = 0 := by
  unfold gn
  rw [List.getElem?_eq_none h]
  rfl

/-- What is above a word's 26 bits goes to the next one. -/
theorem carry_step (xs : List Nat) (h : xs.length = 5) (k : Nat) (hk : k < 4) : V5 ((xs.set k (gn xs k % 67108864)).set (k + 1) (gn xs (k + 1) + gn xs k / 67108864)) = V5 xs := by
  obtain ⟨a, b, c, d, e, rfl⟩ := five h
  match k, hk with
  | 0, _ => simp [V5, gn]; omega
  | 1, _ => simp [V5, gn]; omega
  | 2, _ => simp [V5, gn]; omega
  | 3, _ => simp [V5, gn]; omega
theorem carry_last (xs : List Nat) (h : xs.length = 5) : V5 ((xs.set 4 (gn xs 4 % 67108864)).set 0 (gn xs 0 + 5 * (gn xs 4 / 67108864))) + gn xs 4 / 67108864 * PP = V5 xs := by
  obtain ⟨a, b, c, d, e, rfl⟩ := five h
  simp [V5, gn, PP]
  omega
theorem V5_le_last (xs : List Nat) : 20282409603651670423947251286016 * gn xs 4 ≤ V5 xs := by unfold V5; omega
theorem V5_lt {xs : List Nat} (h : Sm xs) : V5 xs < 1361129467683753853853498429727072845824 := by
  have h0 := h.lt 0
  have h1 := h.lt 1
  have h2 := h.lt 2
  have h3 := h.lt 3
  have h4 := h.lt 4
  unfold V5
  omega
theorem and26 (x : Int) (h0 : 0 ≤ x) (h1 : x < 18446744073709551616) : bits .and .u64 x 67108863 = x % 67108864 := by
  rw [u64_and _ _ h0 h1 (by omega) (by omega)]
  have e : (67108863 : Int).toNat = 2 ^ 26 - 1 := rfl
  rw [e, Nat.and_two_pow_sub_one_eq_mod]
  omega
theorem and24 (x : Int) (h0 : 0 ≤ x) (h1 : x < 18446744073709551616) : bits .and .u64 x 16777215 = x % 16777216 := by
  rw [u64_and _ _ h0 h1 (by omega) (by omega)]
  have e : (16777215 : Int).toNat = 2 ^ 24 - 1 := rfl
  rw [e, Nat.and_two_pow_sub_one_eq_mod]
  omega

/-- The words that a block holds. -/
def wordsAt (w : World) (g : Nat) : List Nat := match w.heap[g]? with
  | some (.cells cs _ _) => cs.toList.map fun v => (match v with | .int _ z => z.toNat | _ => 0)
  | _ => []
theorem wordsAt_row {w : World} {g : Nat} {t : TypeId} {xs : List Nat} (h : Row w g t (ns xs)) : wordsAt w g = xs := by
  unfold wordsAt
  rw [show w.heap[g]? = _ from h]
  simp only [ns, List.map_map]
  clear h
  induction xs with
  | nil => rfl
  | cons x r ih => simpa using ih
/-- What is carried: as much by 2^130 - 5, and as much itself where it is below 2^130. -/
structure Cy (v : Nat) (ys : List Nat) : Prop where
  mod : V5 ys % PP = v % PP
  eq : v < 1361129467683753853853498429727072845824 → V5 ys = v
theorem Cy.wrap {v : Nat} {ys zs : List Nat} (h : Cy v ys) {o : Nat} (e : V5 zs + o * PP = V5 ys) (hv : 1361129467683753853853498429727072845824 ≤ V5 ys) : Cy v zs := by
  refine ⟨?_, fun hl => ?_⟩
  · rw [← h.mod, ← e, Nat.add_mul_mod_self_right]
  · have := h.eq hl
    omega
end Go.Proofs.Ytholddbmnlnkkaa
