/-
  What hkdf.sumOf, pad and asMacKey answer.
-/
import Derived.Test.YtlicflmpakkccaaDoorGkHkHeld
namespace Go.Proofs.YtlicflmpakkccaaDoor
open Go Go.RowKit

set_option maxRecDepth 20000 in
set_option maxHeartbeats 1000000 in
theorem sumOf_any (L o m c : Nat) (ls : List SL) (w : World) (hm : ls.length = m) (hm2 : m ≤ 1000) (hok : ∀ s ∈ ls, s.Ok w) (htot : (joinB ls).length ≤ 1048576) (hL : L < w.heap.size)
    (hc : ∀ (j : Nat) (s : SL), ls[j]? = some s → w.cell? ⟨L, o + j, none⟩ = some (.slice s.a s.len s.cap)) :
    Calls Tryd.prog 31 #[.slice (some ⟨L, o, none⟩) m c] w fun e w' => e = .returned (.agg (bs (sumL (joinB ls)))) ∧ Below w.heap.size w w' := by
  have HM := veil hm
  have HOK := veil hok
  have HC := veil hc
  have HT := veil htot
  clear hm hok hc htot
  go_enter Tryd.func31, Tryd.ntmps31
  go_wp2_with (with_reducible (show wpList _ _ _ (⟨_, Op.alloc 44, _, _, _, _⟩ :: _) _ _)
               refine alloc_row rfl 44 rfl (bs z32) (by kernel_rfl) ?_)
  have hb0 : Below w.heap.size w (w.alloc (.cells (bs z32) 44)) := (Below.refl _ w).alloc (Nat.le_refl _) _
  refine (concat_any L o m c ls _ HM.out hm2 (fun s hs => (HOK.out s hs).alloc _) (by have := HT.out; omega) (by simp; omega) (fun j s hs => (hb0.cell (p := ⟨L, o + j, none⟩) hL).trans (HC.out j s hs))).mono ?_
  rintro e1 w1 ⟨s, rfl, hok1, hsb, hb1⟩
  have q0 : Row w1 w.heap.size 44 (bs z32) := Row.below (Row.new _ _ _) hb1 (by simp)
  have hbel1 : Below w.heap.size w w1 := hb0.trans (hb1.mono (by simp))
  clear hb0 hb1
  go_wp2_with fail
  refine (sum_any s.g s.off s.a s.len s.cap s.b w1 hok1.hb (by rw [← hok1.hb, hsb]; exact HT.out) hok1.hcap hok1.at_ hok1.lt hok1.cell).mono ?_
  rintro e2 w2 ⟨rfl, hb2⟩
  have q1 := q0.below hb2 q0.lt
  have hbel2 := hbel1.trans (hb2.mono hbel1.size)
  rw [hsb]
  clear hb2 hbel1 q0 hok1 hsb
  have hsum : (bs (sumL (joinB ls))).size = 32 := by rw [bs_size, sumL_length]
  obtain ⟨T, hT⟩ : ∃ T, T = sumL (joinB ls) := ⟨_, rfl⟩
  have HTT := veil hT
  rw [← hT] at hsum ⊢
  clear hT
  have hq1 := q1.lt
  have q2 := q1.alloc (.cells (bs T) 44)
  go_wp2_with (first
    | (with_reducible (show wpList _ _ _ (⟨_, Op.alloc 44, _, _, _, _⟩ :: _) _ _)
       refine alloc_row rfl 44 rfl (bs z32) (by kernel_rfl) ?_)
    | (with_reducible (show wpList _ _ _ (⟨_, Op.store 44 (.tmp 3) _, _, _, _, _⟩ :: _) _ _)
       refine store_new (w := w2) (by rfl) 44 _ _ (by rfl) w2.heap.size (bs T) (by rfl) (by rfl) 44 (bs z32) (by rfl) 32 (by kernel_rfl) (by rfl) hsum (bs_one _) ?_)
    | (with_reducible (show wpList _ _ _ (⟨_, Op.load 44 _, _, _, _, _⟩ :: _) _ _)
       refine load_row rfl 44 _ rfl w2.heap.size rfl _ _ (Row.new _ _ _) 32 5 Tryd.underlying44 (by kernel_rfl) hsum ?_)
    | (with_reducible (show wpList _ _ _ (⟨_, Op.store 44 (.tmp 2) _, _, _, _, _⟩ :: _) _ _)
       refine store_row rfl 44 _ _ rfl w.heap.size (bs T) rfl rfl _ _ q2 32 (by kernel_rfl) (by rfl) hsum (bs_one _) ?_))
  refine bodyPost_ret (result_row rfl _ _ w.heap.size _ _ (q2.put _) 32 5 rfl Tryd.underlying44 (by kernel_rfl) hsum) rfl ⟨by rw [HTT.out], bSetRow (hbel2.alloc hbel2.size _) (Nat.le_refl _) _⟩

theorem b8x (a b : By) : bits .xor .u8 (v8 a) (v8 b) = v8 (a ^^^ b) := by
  rw [u8_xor _ _ (v8_nn a) (by have := v8_le a; omega) (v8_nn b) (by have := v8_le b; omega)]
  unfold v8
  rw [BitVec.toNat_xor]
  simp
/-- A key whose first bytes were taken against a byte. -/
def padTo (k : List By) (x : By) (i : Nat) : List By := (padX k x).take i ++ k.drop i
theorem padTo_length (k : List By) (x : By) (i : Nat) (h : i ≤ k.length) : (padTo k x i).length = k.length := by
  unfold padTo
  rw [List.length_append, List.length_take, List.length_drop, padX_length]
  omega
theorem padTo_get (k : List By) (x : By) (i : Nat) (h : i < k.length) : gb (padTo k x i) i = gb k i := by
  unfold padTo gb
  rw [List.getElem?_append_right (by rw [List.length_take, padX_length]; omega), List.length_take, padX_length, Nat.min_eq_left (by omega), Nat.sub_self, List.getElem?_drop, Nat.add_zero]
theorem padTo_set (k : List By) (x : By) (i : Nat) (h : i < k.length) : (padTo k x i).set i (gb k i ^^^ x) = padTo k x (i + 1) := by
  unfold padTo
  have hl : ((padX k x).take i).length = i := by rw [List.length_take, padX_length]; omega
  rw [List.drop_eq_getElem_cons h, List.set_append_right _ _ (by omega), hl, Nat.sub_self, List.set_cons_zero, List.take_add_one]
  have e : (padX k x)[i]? = some (gb k i ^^^ x) := by
    unfold padX gb
    rw [List.getElem?_map, List.getElem?_eq_getElem h]
    rfl
  rw [e]
  simp

set_option maxRecDepth 20000 in
set_option maxHeartbeats 1000000 in
theorem pad_any (k : List By) (x : By) (hk : k.length = 64) (w : World) :
    Calls Tryd.prog 34 #[.agg (bs k), .int .u8 (v8 x)] w fun e w' => e = .returned (.agg (bs (padX k x))) ∧ Below w.heap.size w w' := by
  have HK := veil hk
  have hx0 := v8_nn x
  have hx1 := v8_le x
  clear hk
  go_enter Tryd.func34, Tryd.ntmps34
  go_wp2_with (with_reducible (show wpList _ _ _ (⟨_, Op.alloc 45, _, _, _, _⟩ :: _) _ _)
               refine alloc_row rfl 45 rfl (bs zB) (by kernel_rfl) ?_)
  go_loopw [6] (fun i wr => ∃ t : Nat, t ≤ 64 ∧ i = .int .i64 t ∧ Row wr w.heap.size 69 (bs (padTo k x t)) ∧ Row wr (w.heap.size + 1) 45 (bs zB) ∧ Below w.heap.size w wr)
    (fun i _ => 64 - (intOf i).toNat)
  case atStart => exact ⟨0, by omega, rfl, (Row.new _ _ _).alloc _, Row.new1 _ _ _ _, ((Below.refl _ w).alloc (Nat.le_refl _) _).alloc (by simp) _⟩
  case round =>
    obtain ⟨t, ht, rfl, r0, r1, hbel⟩ := hrel
    by_cases hlt : t < 64
    · have c0 := r0.cellB (j := t) (by rw [padTo_length _ _ _ (by rw [HK.out]; exact ht), HK.out]; exact hlt)
      have HG := veil (padTo_get k x t (by rw [HK.out]; exact hlt))
      have HSt := veil (padTo_set k x t (by rw [HK.out]; exact hlt))
      rw [HG.out] at c0
      have f0 := r0.frozen t
      have hy0 := v8_nn (gb k t)
      have hy1 := v8_le (gb k t)
      generalize gb k t = y at *
      have hbx := b8x y x
      go_wp2
      go_roundw
      case rel =>
        refine ⟨t + 1, by omega, by go_num, ?_, r1.other (by show w.heap.size + 1 ≠ w.heap.size; omega) _, hbel.setCell (p := ⟨w.heap.size, t, none⟩) (Nat.le_refl _) _⟩
        have := r0.set t (.int .u8 (v8 (y ^^^ x)))
        rw [bs_set, HSt.out] at this
        exact this
      case measure => simp [intOf]; omega
    · obtain rfl : t = 64 := by omega
      have e : padTo k x 64 = padX k x := by
        unfold padTo
        rw [List.take_of_length_le (by rw [padX_length, HK.out]; exact Nat.le_refl _), List.drop_eq_nil_of_le (by rw [HK.out]; exact Nat.le_refl _), List.append_nil]
      rw [e] at r0
      have hsz : (bs (padX k x)).size = 64 := by rw [bs_size, padX_length, HK.out]
      go_wp2_with (first
        | (with_reducible (show wpList _ _ _ (⟨_, Op.load 69 _, _, _, _, _⟩ :: _) _ _)
           refine load_row rfl 69 _ rfl w.heap.size rfl _ _ r0 64 5 Tryd.underlying69 (by kernel_rfl) hsz ?_)
        | (with_reducible (show wpList _ _ _ (⟨_, Op.store 45 _ _, _, _, _, _⟩ :: _) _ _)
           refine store_row rfl 45 _ _ rfl (w.heap.size + 1) (bs (padX k x)) rfl rfl _ _ r1 64 (by kernel_rfl) (by rfl) hsz (bs_one _) ?_))
      refine bodyPost_ret (result_row rfl _ _ (w.heap.size + 1) _ _ (r1.put _) 64 5 rfl Tryd.underlying45 (by kernel_rfl) hsz) rfl ⟨rfl, bSetRow hbel (by omega) _⟩
end Go.Proofs.YtlicflmpakkccaaDoor
