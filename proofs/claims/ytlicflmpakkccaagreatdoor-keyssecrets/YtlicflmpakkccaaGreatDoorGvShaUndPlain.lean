/-
  The words of a block, one after another; operations behind a guard that holds.
-/
import Derived.Test.YtlicflmpakkccaaGreatDoorGv8
namespace Go.Proofs.YtlicflmpakkccaaGreatDoor
open Go Go.RowKit

theorem schedN_at (b : List By) (n j : Nat) (hj : j < 16 + n) : ∀ k, (schedN b (n + k))[j]? = (schedN b n)[j]?
  | 0 => rfl
  | k + 1 => by
    rw [← Nat.add_assoc, schedN, List.getElem?_append_left (by rw [schedN_length]; omega), schedN_at b n j hj k]
theorem sched_low (b : List By) (hb : b.length = 64) (t : Nat) (h : t < 16) : (sched b)[t]? = some (word4 b t) := by
  have := schedN_at b 0 t (by omega) 48
  rw [Nat.zero_add] at this
  unfold sched
  rw [this]
  exact first16_get b t h hb
theorem sched_gw (b : List By) (n j : Nat) (hn : n ≤ 48) (hj : j < 16 + n) : gw (schedN b n) j = gw (sched b) j := by
  have := schedN_at b n j hj (48 - n)
  rw [show n + (48 - n) = 48 by omega] at this
  unfold gw sched
  rw [this]
theorem sched_high (b : List By) (t : Nat) (h0 : 16 ≤ t) (h : t < 64) : (sched b)[t]? = some (ad (ad (ad (s1 (gw (sched b) (t - 2))) (gw (sched b) (t - 7))) (s0 (gw (sched b) (t - 15)))) (gw (sched b) (t - 16))) := by
  obtain ⟨n, rfl⟩ : ∃ n, t = 16 + n := ⟨t - 16, by omega⟩
  have e := schedN_at b (n + 1) (16 + n) (by omega) (48 - (n + 1))
  rw [show n + 1 + (48 - (n + 1)) = 48 by omega] at e
  unfold sched at *
  rw [e, schedN, List.getElem?_append_right (by rw [schedN_length]; omega), schedN_length, Nat.sub_self, List.getElem?_cons_zero]
  unfold nextW
  rw [schedN_length, sched_gw b n _ (by omega) (by omega), sched_gw b n _ (by omega) (by omega), sched_gw b n _ (by omega) (by omega), sched_gw b n _ (by omega) (by omega)]
  rfl

/-- The row of the words while they come. -/
def comeW (b : List By) (t : Nat) : List Wd := (sched b).take t ++ List.replicate (64 - t) 0
theorem comeW_length (b : List By) (t : Nat) (h : t ≤ 64) : (comeW b t).length = 64 := by simp [comeW, sched_length]; omega
theorem comeW_gw (b : List By) (t j : Nat) (h : j < t) (ht : t ≤ 64) : gw (comeW b t) j = gw (sched b) j := by
  unfold gw comeW
  rw [List.getElem?_append_left (by rw [List.length_take, sched_length]; omega), List.getElem?_take_of_lt h]
theorem comeW_set (b : List By) (t : Nat) (h : t < 64) (x : Wd) (hx : (sched b)[t]? = some x) : (comeW b t).set t x = comeW b (t + 1) :=
  fill_set2 (sched b) 0 t 64 (by rw [sched_length]; exact h) h x hx
theorem comeW_all (b : List By) : comeW b 64 = sched b := by
  unfold comeW
  rw [List.take_of_length_le (by rw [sched_length]; exact Nat.le_refl _), Nat.sub_self, List.replicate_zero, List.append_nil]

/-- Each less what the other has. -/
theorem further_less (s k : List Wd) (b : List By) (i : Nat) (h : i < 8) (hs : s.length = 8) : (roundsTo s k (sched b) 64)[i]? = some (sb (gw (furtherL s k b) i) (gw s i)) := by
  have e : gw (furtherL s k b) i = ad (gw s i) (gw (roundsTo s k (sched b) 64) i) := by
    unfold furtherL
    show ((sumS s (roundsTo s k (sched b) 64))[i]?).getD 0 = _
    rw [sumS_get _ _ i h]
    rfl
  have e2 : sb (ad (gw s i) (gw (roundsTo s k (sched b) 64) i)) (gw s i) = gw (roundsTo s k (sched b) 64) i := by
    rw [ad_comm]
    unfold sb ad
    exact BitVec.add_sub_cancel _ _
  rw [e, e2]
  have hl := roundsTo_length s k (sched b) hs 64
  unfold gw
  rw [List.getElem?_eq_getElem (by rw [hl]; exact h)]
  rfl

section
variable {P : Program} {ops : Array Oper} {rest : List Oper} {o : Oper} {a : Act} {w : World} {Q : Exit → Act → World → Prop}
theorem wpList_wanted (hw : Region.wanted o (yielded ops a.tmps) = true)
    (h : ∀ K : Act → World → Prop, (∀ a w, wpList P ops Q rest a w → K a w) → o.wp P a w K Q) : wpList P ops Q (o :: rest) a w :=
  wpList_step fun K hK => by rw [hw, if_pos rfl]; exact h K hK
theorem load_rowG (hgd : Region.wanted o (yielded ops a.tmps) = true) (ty : TypeId) (x : Operand) (ho : o.op = .load ty x)
    (g : Nat) (hx : a.eval x = .pointer (some ⟨g, 0, none⟩)) (t : TypeId) (cs : Array Value) (hg : Row w g t cs) (n : Nat) (e : TypeId)
    (hu : P.underlying ty = some (.array n e)) (hi : (P.info? ty).map (·.size) = some n) (hc : cs.size = n)
    (h : wpList P ops Q rest (a.put o.dst (.agg cs)) w) : wpList P ops Q (o :: rest) a w :=
  wpList_wanted hgd fun _ hK => wp_load_row ty x ho g hx t cs (0, 0) _ hg hu rfl (by rw [hc]; exact hi) (hK _ _ h)
theorem value_G (hgd : Region.wanted o (yielded ops a.tmps) = true) (v : Value) (hv : (execOp a.eval o).run P w = .ok (.value v) w)
    (h : wpList P ops Q rest (a.put o.dst v) w) : wpList P ops Q (o :: rest) a w :=
  wpList_wanted hgd fun _ hK => by unfold Oper.wp; rw [hv, Oper.upon_value]; exact hK _ _ h
end
end Go.Proofs.YtlicflmpakkccaaGreatDoor
