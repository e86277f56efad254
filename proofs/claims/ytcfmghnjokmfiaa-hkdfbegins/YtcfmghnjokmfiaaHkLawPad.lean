/-
  What the law's pad answers.
-/
import Derived.Test.YtcfmghnjokmfiaaHkMacF
import Derived.Test.YtcfmghnjokmfiaaHkExpand
import Derived.Deep.CutRange
namespace Go.Proofs.Ytcfmghnjokmfiaa
open Go Go.RowKit

theorem OwnB.set {w : World} {base g n cap : Nat} {b : List By} (h : OwnB w base g n cap b) {j : Nat} (x : By) : OwnB (w.setCell ⟨g, j, none⟩ (.int .u8 (v8 x))) base g n cap (b.set j x) := by
  refine ⟨by rw [List.length_set]; exact h.len, ?_⟩
  obtain ⟨h1, h2⟩ := h.row
  rcases h2 with ⟨h3, _⟩ | ⟨g', c', cur, h3, h4, h5, h6, h7, h8, h9⟩
  · cases h3
  · simp only [Value.slice.injEq, Option.some.injEq, Addr.mk.injEq, and_true, true_and] at h3
    obtain ⟨rfl, rfl⟩ := h3
    refine ⟨by rw [vb_length, List.length_set]; rw [vb_length] at h1; exact h1, .inr ⟨g, cap, cur.setIfInBounds j (.int .u8 (v8 x)), rfl, h4, heap_setCell_same w g j cur 5 _ h5, h6, h7, by rw [Array.size_setIfInBounds]; exact h8, ?_⟩⟩
    rw [Array.toList_setIfInBounds, List.take_set, h9]
    unfold vb
    rw [List.map_set]
theorem OwnB.frozen {w : World} {base g n cap : Nat} {b : List By} (h : OwnB w base g n cap b) (j : Nat) : w.frozen? ⟨g, j, none⟩ = false := by
  rcases h.row.2 with ⟨h3, _⟩ | ⟨g', c', cur, h3, h4, h5, _⟩
  · cases h3
  · simp only [Value.slice.injEq, Option.some.injEq, Addr.mk.injEq, and_true, true_and] at h3
    obtain ⟨rfl, rfl⟩ := h3
    exact frozen_of_row w g j cur 5 h5
theorem own_shape {w : World} {base n : Nat} {e : TypeId} {v : Value} {xs : List Value} (h : w.ownsRow base e 1 v n xs) : ∃ a c, v = .slice a n c := by
  rcases h.2 with ⟨rfl, rfl⟩ | ⟨g, c, cur, rfl, _⟩
  · exact ⟨_, _, rfl⟩
  · exact ⟨_, _, rfl⟩

set_option maxRecDepth 20000 in
set_option maxHeartbeats 1000000 in
theorem lawPad_any (k : SL) (x : By) (w : World) (hk : k.Ok w) (hl : k.len ≤ 5000) :
    Calls Try.prog 15 #[.slice k.a k.len k.cap, .int .u8 (v8 x)] w fun e w' => ∃ v, e = .returned v ∧ w'.ownsRow w.heap.size 5 1 v 64 (vb (padX (keyL k.b) x)) ∧ Below w.heap.size w w' := by
  obtain ⟨i0, hi, hz0, hz1, hz2⟩ := info_parts (P := Try.prog) (e := 5) (z := .int .u8 0) (size := 1) (bytes := 1) (by kernel_rfl)
  have HK := veil hk
  have hkl := hk.hb
  have hx0 := v8_nn x
  have hx1 := v8_le x
  clear hk
  go_enter Try.func15, Try.ntmps15
  go_upto_if 11 with fail
  go_cut [5] from 9 to 22 (fun v wx => ∃ kb : List By, wx.ownsRow w.heap.size 5 1 v kb.length (vb kb) ∧ kb.length ≤ 64 ∧ keyL k.b = kb ++ List.replicate (64 - kb.length) 0 ∧ Below w.heap.size w wx)
  case first =>
    by_cases h64 : (64 : Int) < (k.len : Int)
    · go_wp2_with fail
      refine (sum_any k.g k.off k.a k.len k.cap k.b w hkl (by omega) HK.out.hcap HK.out.at_ HK.out.lt HK.out.cell).mono ?_
      rintro e1 w1 ⟨rfl, hb1⟩
      have hsum : (bs (sumL k.b)).size = 32 := by rw [bs_size, sumL_length]
      have HB1 := veil hb1
      have hs1 := hb1.size
      clear hb1
      go_wp2_with (first
        | (with_reducible (show wpList _ _ _ (⟨_, Op.alloc 25, _, _, _, _⟩ :: _) _ _)
           refine alloc_row rfl 25 rfl (bs z32) (by kernel_rfl) ?_)
        | (with_reducible (show wpList _ _ _ (⟨_, Op.store 25 _ _, _, _, _, _⟩ :: _) _ _)
           refine store_new (w := w1) (by rfl) 25 _ _ (by rfl) w1.heap.size (bs (sumL k.b)) (by rfl) (by rfl) 25 (bs z32) (by rfl) 32 (by kernel_rfl) (by rfl) hsum (bs_one _) ?_)
        | (with_reducible (show wpList _ _ _ (⟨some 19, Op.call _, _, _, _, _⟩ :: _) _ _)
           refine append_sl rfl _ _ 22 rfl w.heap.size i0 Try.underlying22 hi hz0 hz1 hz2 _ 0 [] rfl (World.ownsRow_nil _ _ _ _) (rowN w1.heap.size 32 (sumL k.b)) (rowN_ok (Row.new _ _ _) (sumL_length _)) rfl (by show 0 + 32 ≤ 8388608; omega) (by simp; omega) ?_
           intro v2 w2 hown2 hgrow2))
      go_meet
      case rel =>
        refine ⟨sumL k.b, ?_, by rw [sumL_length]; omega, ?_, (HB1.out.alloc hs1 _).grown hgrow2 (by simp; omega) (fun q e => by cases e)⟩
        · have h2 : w2.ownsRow w.heap.size 5 1 v2 (0 + 32) (vb (sumL k.b)) := hown2
          rw [sumL_length]
          exact h2
        · unfold keyL
          rw [if_pos (by omega), sumL_length]
    · go_wp2_with (with_reducible (show wpList _ _ _ (⟨some 22, Op.call _, _, _, _, _⟩ :: _) _ _)
                   refine append_sl rfl _ _ 22 rfl w.heap.size i0 Try.underlying22 hi hz0 hz1 hz2 _ 0 [] rfl (World.ownsRow_nil _ _ _ _) k HK.out rfl (by omega) (Nat.le_refl _) ?_
                   intro v2 w2 hown2 hgrow2)
      go_meet
      case rel =>
        refine ⟨k.b, ?_, by omega, ?_, (Below.refl _ w).grown hgrow2 (Nat.le_refl _) (fun q e => by cases e)⟩
        · rw [hkl]
          rw [Nat.zero_add] at hown2
          exact hown2
        · unfold keyL
          rw [if_neg (by omega)]
  case rest =>
    obtain ⟨kb, hown, hkb, hkey, hbel⟩ := hcut
    have HKey := veil hkey
    obtain ⟨a1, c1, rfl⟩ := own_shape hown
    have HO1 := veil hown
    have HB1 := veil hbel
    clear hown hbel hkey
    go_wp2_with fail
    go_loopw [5] (fun v wr => ∃ (j n : Nat) (a : Option Addr) (c : Nat), n = kb.length + j ∧ n ≤ 64 ∧ v = .slice a n c ∧ wr.ownsRow w.heap.size 5 1 (.slice a n c) n (vb (kb ++ List.replicate j 0)) ∧ Below w.heap.size w wr)
      (fun v _ => 64 - slen v)
    case atStart => exact ⟨0, kb.length, a1, c1, rfl, hkb, rfl, by rw [List.replicate_zero, List.append_nil]; exact HO1.out, HB1.out⟩
    case round =>
      clear HO1 HB1
      obtain ⟨j, n, a2, c2, hn, hn64, rfl, hown, hbel⟩ := hrel
      have HOWN := veil hown
      have HB := veil hbel
      have hsz := hbel.size
      have HN := veil hn
      clear hown hbel hn
      by_cases hlt : n < 64
      · go_wp2_with (with_reducible (show wpList _ _ _ (⟨some 28, Op.call _, _, _, _, _⟩ :: _) _ _)
                     refine wpList_append_own _ rfl _ _ 22 rfl w.heap.size 5 i0 (.int .u8 0) 1 1 Try.underlying22 hi hz0 hz1 hz2 rfl (by decide) _ n _ rfl (HOWN.out.alloc _) ⟨wr.heap.size, 0, none⟩ 1 1 [.int .u8 0] rfl rfl (cell_one_new _ _ _) (by simp [Value.oneCell']) (by unfold maxLen; omega) (by omega) (by simp; omega) ?_
                     intro v5 w5 hown5 hgrow5 _
                     obtain ⟨a5, c5, rfl⟩ := own_shape hown5)
        refine ⟨⟨j + 1, n + 1, a5, c5, by have := HN.out; omega, by omega, rfl, ?_, (HB.out.alloc hsz _).grown hgrow5 (by simp; omega) (fun q e => ((HOWN.out.alloc (.cells #[] 5)).lt q e).1)⟩, by simp only [slen]; omega⟩
        have e : kb ++ List.replicate (j + 1) (0 : By) = (kb ++ List.replicate j 0) ++ [0] := by rw [List.replicate_succ', List.append_assoc]
        rw [e, vb_append]
        exact hown5
      · obtain rfl : n = 64 := by omega
        have hj : j = 64 - kb.length := by have := HN.out; omega
        have hown := HOWN.out
        rw [hj, ← HKey.out] at hown
        obtain ⟨g, c, hv, hg1, hg2, _⟩ := own_slice hown (by decide)
        have e2 := hv
        injection e2 with e3 _ e4
        subst e3 e4
        have HO3 : Hid (OwnB wr w.heap.size g 64 c2 (keyL k.b)) := ⟨keyL_length _, hown⟩
        clear hown HOWN hv HN hj hlt
        generalize wr = W3 at *
        go_wp2_with fail
        go_loopw [8] (fun i wr => ∃ t : Nat, t ≤ 64 ∧ i = .int .i64 t ∧ OwnB wr w.heap.size g 64 c2 (padTo (keyL k.b) x t) ∧ Below w.heap.size w wr)
          (fun i _ => 64 - (intOf i).toNat)
        case atStart => exact ⟨0, by omega, rfl, HO3.out, HB.out⟩
        case round =>
          clear HO3 HB
          obtain ⟨t, ht, rfl, ho, hbel⟩ := hrel
          have hkl2 := keyL_length k.b
          by_cases hlt : t < 64
          · have c0 := ho.cell (j := t) hlt
            have HG := veil (padTo_get (keyL k.b) x t (by rw [hkl2]; exact hlt))
            have HSt := veil (padTo_set (keyL k.b) x t (by rw [hkl2]; exact hlt))
            rw [HG.out] at c0
            have f0 := ho.frozen t
            have hy0 := v8_nn (gb (keyL k.b) t)
            have hy1 := v8_le (gb (keyL k.b) t)
            generalize gb (keyL k.b) t = y at *
            have hbx := b8x y x
            go_wp2
            go_roundw
            case rel =>
              refine ⟨t + 1, by omega, by go_num, ?_, hbel.setCell (p := ⟨g, t, none⟩) hg2 _⟩
              have := ho.set (j := t) (y ^^^ x)
              rw [HSt.out] at this
              exact this
            case measure => simp [intOf]; omega
          · obtain rfl : t = 64 := by omega
            have e : padTo (keyL k.b) x 64 = padX (keyL k.b) x := by
              unfold padTo
              rw [List.take_of_length_le (by rw [padX_length, hkl2]; exact Nat.le_refl _), List.drop_eq_nil_of_le (by rw [hkl2]; exact Nat.le_refl _), List.append_nil]
            rw [e] at ho
            go_wp2_with fail
            go_ret
            exact ⟨_, rfl, ho.row, hbel⟩
end Go.Proofs.Ytcfmghnjokmfiaa
