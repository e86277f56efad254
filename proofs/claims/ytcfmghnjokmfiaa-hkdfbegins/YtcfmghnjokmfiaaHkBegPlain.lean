/-
  Fewer bytes of a key begin more of them, on lists; a part of a slice.
-/
import Derived.Test.YtcfmghnjokmfiaaHkMacW
namespace Go.Proofs.Ytcfmghnjokmfiaa
open Go Go.RowKit

theorem partTo_split (k info : List By) (m d : Nat) : ∃ l : List Prt, partTo k info (m + d) = partTo k info m ++ l := by
  induction d with
  | zero => exact ⟨[], by simp⟩
  | succ d ih =>
    obtain ⟨l, hl⟩ := ih
    exact ⟨l ++ [partAt k info (m + d)], by rw [← Nat.add_assoc, partTo_succ, hl, List.append_assoc]⟩
theorem joined_append (a b : List Prt) : joined (a ++ b) = joined a ++ joined b := by simp [joined]
theorem expandL_few (k info : List By) (n m : Nat) (h : m ≤ n) : expandL k info m = (expandL k info n).take m := by
  unfold expandL toldL
  have hd : nparts n = nparts m + (nparts n - nparts m) := by unfold nparts; omega
  obtain ⟨l, hl⟩ := partTo_split k info (nparts m) (nparts n - nparts m)
  rw [← hd] at hl
  rw [hl, joined_append, List.take_take, Nat.min_eq_left h, List.take_append_of_le_length (by rw [joined_length, partTo_length]; unfold nparts; omega)]
theorem expandL_part (k info : List By) (n i : Nat) (h : 32 * (i + 1) ≤ n) : ((expandL k info n).drop (32 * i)).take 32 = partL k info (i + 1) := by
  have e1 : ((expandL k info n).drop (32 * i)).take 32 = ((expandL k info n).take (32 * (i + 1))).drop (32 * i) := by
    rw [List.drop_take]
    congr 1
    omega
  rw [e1, ← expandL_few k info n (32 * (i + 1)) h]
  unfold expandL toldL
  have hp : nparts (32 * (i + 1)) = i + 1 := by unfold nparts; omega
  rw [hp, List.take_of_length_le (by rw [joined_length, partTo_length]; exact Nat.le_refl _), partTo_succ, joined_snoc]
  rw [List.drop_append_of_le_length (by rw [joined_length, partTo_length]; exact Nat.le_refl _), List.drop_eq_nil_of_le (by rw [joined_length, partTo_length]; exact Nat.le_refl _), List.nil_append]
  rfl

/-- A part of a slice. -/
theorem SL.Ok.sub {w : World} {g n cap : Nat} {b : List By} (h : (⟨some ⟨g, 0, none⟩, n, cap, g, 0, b⟩ : SL).Ok w) (lo len : Nat) (hl : lo + len ≤ n) : (⟨some ⟨g, lo, none⟩, len, cap - lo, g, lo, (b.drop lo).take len⟩ : SL).Ok w := by
  have hb : b.length = n := h.hb
  have hc : n ≤ cap := h.hcap
  refine ⟨by simp only [List.length_take, List.length_drop]; omega, by simp only; omega, (fun e => by cases e), fun _ => rfl, fun p => h.lt (show 0 < n by simp only at p; omega), fun j hj => ?_⟩
  simp only at hj ⊢
  have := h.cell (lo + j) (show lo + j < n by omega)
  simp only [Nat.zero_add] at this
  rw [this]
  unfold gb
  rw [List.getElem?_take_of_lt hj, List.getElem?_drop]
end Go.Proofs.Ytcfmghnjokmfiaa
