/-
  What the document's pad answers.
-/
import Derived.Test.YtcfmghnjokmfiaaGreatDoorHkMacW
import Derived.Test.YtcfmghnjokmfiaaGreatDoorShaRefSum
import Derived.Deep.CutRange
namespace Go.Proofs.YtcfmghnjokmfiaaGreatDoor
open Go Go.RowKit

theorem own_mono {w : World} {B B' n : Nat} {e : TypeId} {v : Value} {xs : List Value} (h : w.ownsRow B e 1 v n xs) (hB : B' ≤ B) : w.ownsRow B' e 1 v n xs := by
  obtain ⟨h1, h2⟩ := h
  refine ⟨h1, ?_⟩
  rcases h2 with h2 | ⟨g, c, cur, h3, h4, h5⟩
  · exact .inl h2
  · exact .inr ⟨g, c, cur, h3, Nat.le_trans hB h4, h5⟩
theorem pad_take (k : List By) (x : By) (t : Nat) (hk : k.length = 64) (h : t < 64) : (padX k x).take (t + 1) = (padX k x).take t ++ [gb k t ^^^ x] := by
  have e : (padX k x)[t]? = some (gb k t ^^^ x) := by
    unfold padX gb
    rw [List.getElem?_map, List.getElem?_eq_getElem (by omega)]
    rfl
  rw [List.take_add_one, e]
  rfl
theorem zeros_get (b : List By) (n t : Nat) : gb (b ++ List.replicate n 0) t = if t < b.length then gb b t else 0 := by
  unfold gb
  split
  · rename_i h
    rw [List.getElem?_append_left h]
  · rename_i h
    rw [List.getElem?_append_right (by omega), List.getElem?_replicate]
    split <;> rfl

set_option maxRecDepth 20000 in
set_option maxHeartbeats 1000000 in
theorem refPad_any (k : SL) (x : By) (w : World) (hk : k.Ok w) (hl : k.len ≤ 1048576) :
    Calls Tryz.prog 61 #[.slice k.a k.len k.cap, .int .u8 (v8 x)] w fun e w' => ∃ v, e = .returned v ∧ w'.ownsRow w.heap.size 5 1 v 64 (vb (padX (keyL k.b) x)) ∧ Below w.heap.size w w' := by
  obtain ⟨i0, hi, hz0, hz1, hz2⟩ := info_parts (P := Tryz.prog) (e := 5) (z := .int .u8 0) (size := 1) (bytes := 1) (by kernel_rfl)
  have HK := veil hk
  have hkl := hk.hb
  have hx0 := v8_nn x
  have hx1 := v8_le x
  clear hk
  go_enter Tryz.func61, Tryz.ntmps61
  go_upto_if 13 with fail
  go_cut [5] from 10 to 19 (fun v wx => ∃ kk : SL, v = .slice kk.a kk.len kk.cap ∧ kk.Ok wx ∧ kk.len ≤ 64 ∧ (∀ t, t < 64 → gb (keyL k.b) t = if t < kk.len then gb kk.b t else 0) ∧ Below w.heap.size w wx)
  case first =>
    by_cases h64 : (64 : Int) < (k.len : Int)
    · go_wp2_with fail
      refine (refSum_any k.g k.off k.a k.len k.cap k.b w hkl hl HK.out.nil HK.out.at_ HK.out.lt HK.out.cell).mono ?_
      rintro e1 w1 ⟨rfl, hb1⟩
      have hsum : (bs (sumL k.b)).size = 32 := by rw [bs_size, sumL_length]
      go_wp2_with (first
        | (with_reducible (show wpList _ _ _ (⟨_, Op.alloc 58, _, _, _, _⟩ :: _) _ _)
           refine alloc_row rfl 58 rfl (bs z32) (by kernel_rfl) ?_)
        | (with_reducible (show wpList _ _ _ (⟨_, Op.store 58 _ _, _, _, _, _⟩ :: _) _ _)
           refine store_new (w := w1) (by rfl) 58 _ _ (by rfl) w1.heap.size (bs (sumL k.b)) (by rfl) (by rfl) 58 (bs z32) (by rfl) 32 (by kernel_rfl) (by rfl) hsum (bs_one _) ?_))
      go_meet
      case rel =>
        refine ⟨rowN w1.heap.size 32 (sumL k.b), rfl, rowN_ok (Row.new _ _ _) (sumL_length k.b), (by show 32 ≤ 64; omega), fun t _ => ?_, hb1.alloc hb1.size _⟩
        show gb (keyL k.b) t = if t < 32 then gb (sumL k.b) t else 0
        unfold keyL
        rw [if_pos (by omega), zeros_get, sumL_length]
    · go_wp2_with fail
      go_meet
      case rel =>
        refine ⟨k, rfl, HK.out, by omega, fun t _ => ?_, Below.refl _ _⟩
        unfold keyL
        rw [if_neg (by omega), zeros_get, hkl]
  case rest =>
    obtain ⟨⟨ka, kl, kc, kg, ko, kb⟩, rfl, kok, hk64, hpk, hB1⟩ := hcut
    simp only at hk64 hpk
    generalize wc = W1 at *
    go_wp2_with fail

    have HPK := veil hpk
    go_loopw [8, 9] (fun v i wr => ∃ t : Nat, t ≤ 64 ∧ i = .int .i64 t ∧ wr.ownsRow W1.heap.size 5 1 v t (vb ((padX (keyL k.b) x).take t)) ∧ Below W1.heap.size W1 wr)
      (fun _ i _ => 64 - (intOf i).toNat)
    case atStart => exact ⟨0, by omega, rfl, World.ownsRow_nil _ _ _ _, Below.refl _ _⟩
    case round =>
      obtain ⟨t, ht, rfl, hown, hbel⟩ := hrel
      have HOWN := veil hown
      have HB := veil hbel
      have hsz := hbel.size
      clear hown hbel
      by_cases hlt : t < 64
      · have HTk := veil (pad_take (keyL k.b) x t (keyL_length _) hlt)
        have HG := veil (HPK.out t hlt)
        by_cases hin : t < kl
        · have hat : ka = some ⟨kg, ko, none⟩ := kok.at_ (show 0 < kl by omega)
          subst hat
          have hcx : wr.cell? ⟨kg, ko + t, none⟩ = some (.int .u8 (v8 (gb kb t))) := (HB.out.cell (p := ⟨kg, ko + t, none⟩) (kok.lt (show 0 < kl by omega))).trans (kok.cell t hin)
          rw [HG.out, if_pos hin] at HTk
          have hy0 := v8_nn (gb kb t)
          have hy1 := v8_le (gb kb t)
          generalize gb kb t = y at *
          have hbx := b8x y x
          go_wp2_with (with_reducible (show wpList _ _ _ (⟨some 36, Op.call _, _, _, _, _⟩ :: _) _ _)
                       refine wpList_append_own _ rfl _ _ 22 rfl W1.heap.size 5 i0 (.int .u8 0) 1 1 Tryz.underlying22 hi hz0 hz1 hz2 rfl (by decide) _ t _ rfl (HOWN.out.alloc _) ⟨wr.heap.size, 0, none⟩ 1 1 [.int .u8 (v8 (y ^^^ x))] rfl rfl (cell_one_new _ _ _) (by simp [Value.oneCell']) (by unfold maxLen; omega) (by omega) (by simp; omega) ?_
                       intro v5 w5 hown5 hgrow5 _)
          go_wp2_with fail
          go_roundw
          case rel => exact ⟨t + 1, by omega, by go_num, by rw [HTk.out, vb_append]; exact hown5, (HB.out.alloc hsz _).grown hgrow5 (by simp; omega) (fun q e => ((HOWN.out.alloc (.cells #[] 5)).lt q e).1)⟩
          case measure => simp [intOf]; omega
        · rw [HG.out, if_neg hin] at HTk
          have hx0' : (0 : By) ^^^ x = x := by simp
          rw [hx0'] at HTk
          go_wp2_with (with_reducible (show wpList _ _ _ (⟨some 40, Op.call _, _, _, _, _⟩ :: _) _ _)
                       refine wpList_append_own _ rfl _ _ 22 rfl W1.heap.size 5 i0 (.int .u8 0) 1 1 Tryz.underlying22 hi hz0 hz1 hz2 rfl (by decide) _ t _ rfl (HOWN.out.alloc _) ⟨wr.heap.size, 0, none⟩ 1 1 [.int .u8 (v8 x)] rfl rfl (cell_one_new _ _ _) (by simp [Value.oneCell']) (by unfold maxLen; omega) (by omega) (by simp; omega) ?_
                       intro v5 w5 hown5 hgrow5 _)
          go_wp2_with fail
          go_roundw
          case rel => exact ⟨t + 1, by omega, by go_num, by rw [HTk.out, vb_append]; exact hown5, (HB.out.alloc hsz _).grown hgrow5 (by simp; omega) (fun q e => ((HOWN.out.alloc (.cells #[] 5)).lt q e).1)⟩
          case measure => simp [intOf]; omega
      · obtain rfl : t = 64 := by omega
        have hown := HOWN.out
        rw [List.take_of_length_le (by rw [padX_length, keyL_length]; exact Nat.le_refl _)] at hown
        go_wp2_with fail
        go_ret
        exact ⟨_, rfl, own_mono hown hB1.size, hB1.trans (HB.out.mono hB1.size)⟩
end Go.Proofs.YtcfmghnjokmfiaaGreatDoor
