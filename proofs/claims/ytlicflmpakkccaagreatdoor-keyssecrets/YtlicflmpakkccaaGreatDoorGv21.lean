/-
  Out of HkRefPad, HkRefMac.
-/
import Derived.Test.YtlicflmpakkccaaGreatDoorGvHkMacW
import Derived.Test.YtlicflmpakkccaaGreatDoorGvShaRefSum
import Derived.Deep.CutRange
import Derived.Test.YtlicflmpakkccaaGreatDoorGvHkThree

/-! What the document's pad answers. -/
namespace Go.Proofs.YtlicflmpakkccaaGreatDoor
open Go Go.RowKit

theorem own_mono {w : World} {B B' n : Nat} {e : TypeId} {v : Value} {xs : List Value} (h : w.ownsRow B e 1 v n xs) (hB : B' ≤ B) : w.ownsRow B' e 1 v n xs := by
  obtain ⟨h1, h2⟩ := h
  refine ⟨h1, ?_⟩
  rcases h2 with h2 | ⟨g, c, cur, h3, h4, h5⟩
  · exact .inl h2
  · exact .inr ⟨g, c, cur, h3, Nat.le_trans hB h4, h5⟩
theorem pad_take (k : List By) (x : By) (t : Nat) (hk : k.length = 64) (h : t < 64) : (padX k x).take (t + 1) = (padX k x).take t ++ [gb k t ^^^ x] := by
  have e : (padX k x)[t]? = some (gb k t ^^^ x) := by
    unfold padX gb
    rw [List.getElem?_map, List.getElem?_eq_getElem (by omega)]
    rfl
  rw [List.take_add_one, e]
  rfl
theorem zeros_get (b : List By) (n t : Nat) : gb (b ++ List.replicate n 0) t = if t < b.length then gb b t else 0 := by
  unfold gb
  split
  · rename_i h
    rw [List.getElem?_append_left h]
  · rename_i h
    rw [List.getElem?_append_right (by omega), List.getElem?_replicate]
    split <;> rfl

set_option maxRecDepth 20000 in
set_option maxHeartbeats 1000000 in
theorem refPad_any (k : SL) (x : By) (w : World) (hk : k.Ok w) (hl : k.len ≤ 1048576) :
    Calls Tryz.prog 146 #[.slice k.a k.len k.cap, .int .u8 (v8 x)] w fun e w' => ∃ v, e = .returned v ∧ w'.ownsRow w.heap.size 5 1 v 64 (vb (padX (keyL k.b) x)) ∧ Below w.heap.size w w' := by
  obtain ⟨i0, hi, hz0, hz1, hz2⟩ := info_parts (P := Tryz.prog) (e := 5) (z := .int .u8 0) (size := 1) (bytes := 1) (by kernel_rfl)
  have HK := veil hk
  have hkl := hk.hb
  have hx0 := v8_nn x
  have hx1 := v8_le x
  clear hk
  go_enter Tryz.func146, Tryz.ntmps146
  go_upto_if 13 with fail
  go_cut [5] from 10 to 19 (fun v wx => ∃ kk : SL, v = .slice kk.a kk.len kk.cap ∧ kk.Ok wx ∧ kk.len ≤ 64 ∧ (∀ t, t < 64 → gb (keyL k.b) t = if t < kk.len then gb kk.b t else 0) ∧ Below w.heap.size w wx)
  case first =>
    by_cases h64 : (64 : Int) < (k.len : Int)
    · go_wp2_with fail
      refine (refSum_any k.g k.off k.a k.len k.cap k.b w hkl hl HK.out.nil HK.out.at_ HK.out.lt HK.out.cell).mono ?_
      rintro e1 w1 ⟨rfl, hb1⟩
      have hsum : (bs (sumL k.b)).size = 32 := by rw [bs_size, sumL_length]
      go_wp2_with (first
        | (with_reducible (show wpList _ _ _ (⟨_, Op.alloc 60, _, _, _, _⟩ :: _) _ _)
           refine alloc_row rfl 60 rfl (bs z32) (by kernel_rfl) ?_)
        | (with_reducible (show wpList _ _ _ (⟨_, Op.store 60 _ _, _, _, _, _⟩ :: _) _ _)
           refine store_new (w := w1) (by rfl) 60 _ _ (by rfl) w1.heap.size (bs (sumL k.b)) (by rfl) (by rfl) 60 (bs z32) (by rfl) 32 (by kernel_rfl) (by rfl) hsum (bs_one _) ?_))
      go_meet
      case rel =>
        refine ⟨rowN w1.heap.size 32 (sumL k.b), rfl, rowN_ok (Row.new _ _ _) (sumL_length k.b), (by show 32 ≤ 64; omega), fun t _ => ?_, hb1.alloc hb1.size _⟩
        show gb (keyL k.b) t = if t < 32 then gb (sumL k.b) t else 0
        unfold keyL
        rw [if_pos (by omega), zeros_get, sumL_length]
    · go_wp2_with fail
      go_meet
      case rel =>
        refine ⟨k, rfl, HK.out, by omega, fun t _ => ?_, Below.refl _ _⟩
        unfold keyL
        rw [if_neg (by omega), zeros_get, hkl]
  case rest =>
    obtain ⟨⟨ka, kl, kc, kg, ko, kb⟩, rfl, kok, hk64, hpk, hB1⟩ := hcut
    simp only at hk64 hpk
    generalize wc = W1 at *
    go_wp2_with fail

    have HPK := veil hpk
    go_loopw [8, 9] (fun v i wr => ∃ t : Nat, t ≤ 64 ∧ i = .int .i64 t ∧ wr.ownsRow W1.heap.size 5 1 v t (vb ((padX (keyL k.b) x).take t)) ∧ Below W1.heap.size W1 wr)
      (fun _ i _ => 64 - (intOf i).toNat)
    case atStart => exact ⟨0, by omega, rfl, World.ownsRow_nil _ _ _ _, Below.refl _ _⟩
    case round =>
      obtain ⟨t, ht, rfl, hown, hbel⟩ := hrel
      have HOWN := veil hown
      have HB := veil hbel
      have hsz := hbel.size
      clear hown hbel
      by_cases hlt : t < 64
      · have HTk := veil (pad_take (keyL k.b) x t (keyL_length _) hlt)
        have HG := veil (HPK.out t hlt)
        by_cases hin : t < kl
        · have hat : ka = some ⟨kg, ko, none⟩ := kok.at_ (show 0 < kl by omega)
          subst hat
          have hcx : wr.cell? ⟨kg, ko + t, none⟩ = some (.int .u8 (v8 (gb kb t))) := (HB.out.cell (p := ⟨kg, ko + t, none⟩) (kok.lt (show 0 < kl by omega))).trans (kok.cell t hin)
          rw [HG.out, if_pos hin] at HTk
          have hy0 := v8_nn (gb kb t)
          have hy1 := v8_le (gb kb t)
          generalize gb kb t = y at *
          have hbx := b8x y x
          go_wp2_with (with_reducible (show wpList _ _ _ (⟨some 36, Op.call _, _, _, _, _⟩ :: _) _ _)
                       refine wpList_append_own _ rfl _ _ 22 rfl W1.heap.size 5 i0 (.int .u8 0) 1 1 Tryz.underlying22 hi hz0 hz1 hz2 rfl (by decide) _ t _ rfl (HOWN.out.alloc _) ⟨wr.heap.size, 0, none⟩ 1 1 [.int .u8 (v8 (y ^^^ x))] rfl rfl (cell_one_new _ _ _) (by simp [Value.oneCell']) (by unfold maxLen; omega) (by omega) (by simp; omega) ?_
                       intro v5 w5 hown5 hgrow5 _)
          go_wp2_with fail
          go_roundw
          case rel => exact ⟨t + 1, by omega, by go_num, by rw [HTk.out, vb_append]; exact hown5, (HB.out.alloc hsz _).grown hgrow5 (by simp; omega) (fun q e => ((HOWN.out.alloc (.cells #[] 5)).lt q e).1)⟩
          case measure => simp [intOf]; omega
        · rw [HG.out, if_neg hin] at HTk
          have hx0' : (0 : By) ^^^ x = x := by simp
          rw [hx0'] at HTk
          go_wp2_with (with_reducible (show wpList _ _ _ (⟨some 40, Op.call _, _, _, _, _⟩ :: _) _ _)
                       refine wpList_append_own _ rfl _ _ 22 rfl W1.heap.size 5 i0 (.int .u8 0) 1 1 Tryz.underlying22 hi hz0 hz1 hz2 rfl (by decide) _ t _ rfl (HOWN.out.alloc _) ⟨wr.heap.size, 0, none⟩ 1 1 [.int .u8 (v8 x)] rfl rfl (cell_one_new _ _ _) (by simp [Value.oneCell']) (by unfold maxLen; omega) (by omega) (by simp; omega) ?_
                       intro v5 w5 hown5 hgrow5 _)
          go_wp2_with fail
          go_roundw
          case rel => exact ⟨t + 1, by omega, by go_num, by rw [HTk.out, vb_append]; exact hown5, (HB.out.alloc hsz _).grown hgrow5 (by simp; omega) (fun q e => ((HOWN.out.alloc (.cells #[] 5)).lt q e).1)⟩
          case measure => simp [intOf]; omega
      · obtain rfl : t = 64 := by omega
        have hown := HOWN.out
        rw [List.take_of_length_le (by rw [padX_length, keyL_length]; exact Nat.le_refl _)] at hown
        go_wp2_with fail
        go_ret
        exact ⟨_, rfl, own_mono hown hB1.size, hB1.trans (HB.out.mono hB1.size)⟩
end Go.Proofs.YtlicflmpakkccaaGreatDoor

/-! What the document's mac and Mac answer. -/
namespace Go.Proofs.YtlicflmpakkccaaGreatDoor
open Go Go.RowKit

theorem own_below {w w' : World} {B n : Nat} {e : TypeId} {v : Value} {xs : List Value} (h : w.ownsRow B e 1 v n xs) (hb : Below w.heap.size w w') : w'.ownsRow B e 1 v n xs :=
  h.kept (row := none) ⟨hb.os, hb.tape, hb.output, hb.size, fun k hk _ => hb.block k hk⟩ (Classical.em _)

set_option maxRecDepth 20000 in
set_option maxHeartbeats 1000000 in
theorem refMac_any (k b : SL) (w : World) (hk : k.Ok w) (hb : b.Ok w) (hkl : k.len ≤ 1048576) (hbl : b.len ≤ 1048512) :
    Calls Tryz.prog 135 #[.slice k.a k.len k.cap, .slice b.a b.len b.cap] w fun e w' => e = .returned (.agg (bs (macK (keyL k.b) b.b))) ∧ Below w.heap.size w w' := by
  obtain ⟨i0, hi, hz0, hz1, hz2⟩ := info_parts (P := Tryz.prog) (e := 5) (z := .int .u8 0) (size := 1) (bytes := 1) (by kernel_rfl)
  have HK := veil hk
  have HB := veil hb
  have hbb := hb.hb
  clear hk hb
  have hpl : ∀ x, (padX (keyL k.b) x).length = 64 := fun x => by rw [padX_length, keyL_length]
  have HPL := veil hpl
  clear hpl
  have b0 : Below w.heap.size w (w.alloc (.cells (bs z32) 60)) := (Below.refl _ w).alloc (Nat.le_refl _) _
  have q0 : Row (w.alloc (.cells (bs z32) 60)) w.heap.size 60 (bs z32) := Row.new _ _ _
  go_enter Tryz.func135, Tryz.ntmps135
  go_wp2_with (with_reducible (show wpList _ _ _ (⟨_, Op.alloc 60, _, _, _, _⟩ :: _) _ _)
               refine alloc_row rfl 60 rfl (bs z32) (by kernel_rfl) ?_)
  refine (refPad_any k 54 _ (HK.out.below b0) hkl).mono ?_
  rintro e1 w1 ⟨v1, rfl, hown1, hb1⟩
  have q1 := q0.below hb1 q0.lt
  have b1 := b0.trans (hb1.mono b0.size)
  have hs1 := hb1.size
  rw [World.size_alloc] at hs1 hown1
  have HOWN := veil hown1
  have HB1 := veil b1
  have HQ1 := veil q1
  clear hb1 hown1 q0 b0 b1 q1
  go_wp2_with (with_reducible (show wpList _ _ _ (⟨some 13, Op.call _, _, _, _, _⟩ :: _) _ _)
               refine append_sl rfl _ _ 22 rfl (w.heap.size + 1) i0 Tryz.underlying22 hi hz0 hz1 hz2 v1 64 _ rfl HOWN.out b (HB.out.below HB1.out) rfl (by omega) hs1 ?_
               intro v2 w2 hown2 hgrow2)
  obtain ⟨s2, rfl, hsl2, hsb2, hok2, _⟩ := SL.of_own hown2
  have b2 := HB1.out.grown hgrow2 (by omega) (fun q e => by have := (HOWN.out.lt q e).1; omega)
  have q2 : Row w2 w.heap.size 60 (bs z32) := (hgrow2.block w.heap.size HQ1.out.lt (fun e => by have := (HOWN.out.lt _ e.symm).1; omega)).trans HQ1.out
  clear hgrow2 hown2 HOWN HB1 HQ1
  unfold SL.v
  refine (refSum_any s2.g s2.off s2.a s2.len s2.cap s2.b w2 hok2.hb (by omega) hok2.nil hok2.at_ hok2.lt hok2.cell).mono ?_
  rintro e3 w3 ⟨rfl, hb3⟩
  rw [hsb2]
  have q3 := q2.below hb3 q2.lt
  have b3 := b2.trans (hb3.mono b2.size)
  obtain ⟨T, hT⟩ : ∃ T, T = sumL (padX (keyL k.b) 54 ++ b.b) := ⟨_, rfl⟩
  have hTl : T.length = 32 := by rw [hT, sumL_length]
  have HTT := veil hT
  rw [← hT]
  clear hb3 b2 q2 hT hok2 hsb2 hsl2
  have hsum : (bs T).size = 32 := by rw [bs_size, hTl]
  have hs3 := b3.size
  have hq3 := q3.lt
  go_wp2_with (first
    | (with_reducible (show wpList _ _ _ (⟨_, Op.alloc 60, _, _, _, _⟩ :: _) _ _)
       refine alloc_row rfl 60 rfl (bs z32) (by kernel_rfl) ?_)
    | (with_reducible (show wpList _ _ _ (⟨_, Op.store 60 _ _, _, _, _, _⟩ :: _) _ _)
       refine store_new (w := w3) (by rfl) 60 _ _ (by rfl) w3.heap.size (bs T) (by rfl) (by rfl) 60 (bs z32) (by rfl) 32 (by kernel_rfl) (by rfl) hsum (bs_one _) ?_))
  have q4 := q3.alloc (.cells (bs T) 60)
  have r5 : Row (w3.alloc (.cells (bs T) 60)) w3.heap.size 60 (bs T) := Row.new _ _ _
  have b4 := b3.alloc hs3 (.cells (bs T) 60)
  have hsz4 : (w3.alloc (.cells (bs T) 60)).heap.size = w3.heap.size + 1 := by simp
  generalize w3.alloc (.cells (bs T) 60) = w4 at *
  obtain ⟨M, hM⟩ : ∃ M, M = sumL (padX (keyL k.b) 92 ++ T) := ⟨_, rfl⟩
  have hMl : M.length = 32 := by rw [hM, sumL_length]
  have HMM := veil hM
  have hmac : Hid (M = macK (keyL k.b) b.b) := show M = _ by rw [hM, HTT.out]; rfl
  have hMs : (bs M).size = 32 := by rw [bs_size, hMl]
  clear hM
  refine wp_mono (Q := fun e a' W => e = .normal ∧ ∃ g8 v u, w4.heap.size ≤ g8 ∧ a' = ({ tmps := #[.slice k.a k.len k.cap, .slice b.a b.len b.cap, undef, undef, .pointer (some ⟨w.heap.size, 0, none⟩), .pointer (some ⟨w3.heap.size, 0, none⟩), .int .i64 0, ptr g8, .int .i64 0, .tuple #[.agg (bs T), .int .i64 0], .slice k.a k.len k.cap, v1, .slice b.a b.len b.cap, .slice s2.a s2.len s2.cap, .tuple #[.agg (bs T), .int .i64 0], .agg (bs T), .int .i64 0, (.tuple #[.agg (bs M), .int .i64 0]), .slice k.a k.len k.cap, v, .slice (some ⟨w3.heap.size, 0, none⟩) 32 32, u, (.tuple #[.agg (bs M), .int .i64 0]), .agg (bs M), .int .i64 0, undef], defers := [] } : Act) ∧
      Row W g8 60 (bs M) ∧ Row W w.heap.size 60 (bs z32) ∧ Below w.heap.size w W) ?_ ?_
  · refine held_any (S := fun W => Row W w.heap.size 60 (bs z32) ∧ Row W w3.heap.size 60 (bs T) ∧ Below w.heap.size w W ∧ w4.heap.size ≤ W.heap.size) (by kernel_rfl) ⟨q4.drew, r5.drew, b4.drew, Nat.le_refl _⟩ (fun W hW => ?_)
    refine H_take 0 (.slice k.a k.len k.cap) rfl (fun W _ => by go_simp) (by kernel_rfl) (by kernel_rfl) (by kernel_rfl) (fun _ _ _ _ h => nomatch h.1) rfl hW ?_
    refine H_take 2 (.slice (some ⟨w3.heap.size, 0, none⟩) 32 32) rfl (fun W _ => by go_simp) (by kernel_rfl) (by kernel_rfl) (by kernel_rfl) (fun _ _ _ _ h => nomatch h.1) rfl hW ?_
    refine three_one w4.heap.size 60 (bs z32) 1 3 4 8
      (fun p8 v19 v21 v22 => { tmps := #[.slice k.a k.len k.cap, .slice b.a b.len b.cap, undef, undef, .pointer (some ⟨w.heap.size, 0, none⟩), .pointer (some ⟨w3.heap.size, 0, none⟩), .int .i64 0, p8, undef, .tuple #[.agg (bs T), .int .i64 0], .slice k.a k.len k.cap, v1, .slice b.a b.len b.cap, .slice s2.a s2.len s2.cap, .tuple #[.agg (bs T), .int .i64 0], .agg (bs T), .int .i64 0, undef, .slice k.a k.len k.cap, v19, .slice (some ⟨w3.heap.size, 0, none⟩) 32 32, v21, v22, undef, undef, undef], defers := [] })
      (fun c1 c3 c4 c8 => #[true, c1, true, c3, c4, false, false, false, c8, false, false])
      (fun v W => W.ownsRow w4.heap.size 5 1 v 64 (vb (padX (keyL k.b) 92))) (fun u W => ∃ s : SL, u = .slice s.a s.len s.cap ∧ s.Ok W ∧ s.b = padX (keyL k.b) 92 ++ T ∧ s.len = 96) (.tuple #[.agg (bs M), .int .i64 0])
      ?_ (fun _ => rfl) (fun _ => rfl) (fun _ => rfl) (fun _ _ => rfl) ?_ ?_ ?_ ?_ ?_ ?_ ?_ ?_ (fun W h => h.2.2.2) 5 ?_ ?_ W hW
    · intro c1 c3 c8 h1
      cases c1 <;> cases c3 <;> cases c8 <;> first | (simp at h1; done) | kernel_rfl
    · intro p8 W K hS hK
      refine O_call rfl rfl 146 #[.slice k.a k.len k.cap, .int .u8 (v8 92)] (by go_simp; rfl) ?_
      refine (refPad_any k 92 W (HK.out.below hS.2.2.1) hkl).mono ?_
      rintro e W' ⟨v, rfl, hown, hb⟩
      exact ⟨_, rfl, hK v W' hb (own_mono hown hS.2.2.2) (fun q e => (hown.lt q e).1)⟩
    · intro p8 v W K hS hI hK
      obtain ⟨v', W', hr, hown, hgr⟩ := append_row W w4.heap.size 22 v 64 _ hI w3.heap.size 32 _ T hTl hS.2.1 (by omega) hS.2.2.2
      obtain ⟨s, hv, hsl, hsb, hok, _⟩ := SL.of_own hown
      have hkeep : ∀ j, j < W.heap.size → v.ownBlock ≠ some j → W'.heap[j]? = W.heap[j]? := fun j hj hne => hgr.block j hj (fun e => hne e.symm)
      have hne : ∀ j, j < w4.heap.size → v.ownBlock ≠ some j := fun j hj e => by have := (hI.lt j e).1; omega
      refine O_value rfl rfl v' W' (exec_append _ _ _ _ rfl _ _ rfl rfl v' W' hr) (hK v' W' ⟨?_, ?_, ?_, ?_⟩ ⟨s, hv.symm, hok, hsb, hsl⟩ hgr.size hkeep)
      · exact (hkeep _ hS.1.lt (hne _ (by omega))).trans hS.1
      · exact (hkeep _ hS.2.1.lt (hne _ (by omega))).trans hS.2.1
      · exact hS.2.2.1.grown hgr hS.2.2.1.size (fun q e => by have := (hI.lt q e).1; omega)
      · exact Nat.le_trans hS.2.2.2 hgr.size
    · rintro p8 v u W K hS ⟨s, rfl, hok, hsb, hsl⟩ hK
      refine O_call rfl rfl 30 #[.slice s.a s.len s.cap] (by go_simp) ?_
      refine (refSum_any s.g s.off s.a s.len s.cap s.b W hok.hb (by omega) hok.nil hok.at_ hok.lt hok.cell).mono ?_
      rintro e W' ⟨rfl, hb⟩
      rw [hsb, ← HMM.out]
      exact ⟨_, rfl, hK W' hb⟩
    · intro v u r W K hK
      exact O_value rfl rfl _ _ (exec_alloc_row 60 rfl (bs z32) (by kernel_rfl)) hK
    · intro v W hI q e
      exact (hI.lt q e).2
    · rintro W W' ⟨h0, h1, h2, h3⟩ hb
      exact ⟨h0.below hb h0.lt, h1.below hb h1.lt, h2.trans (hb.mono h2.size), Nat.le_trans h3 hb.size⟩
    · intro v W W' hI hb
      exact own_below hI hb
    · rintro u W W' ⟨s, rfl, hok, hsb, hsl⟩ hb
      exact ⟨s, rfl, hok.below hb, hsb, hsl⟩
    · intro g8 v u W hS h8 b8
      refine H_take 5 (.tuple #[.agg (bs M), .int .i64 0]) rfl (fun W _ => by go_simp) (by kernel_rfl) (by kernel_rfl) (by kernel_rfl) (fun _ _ _ _ h => nomatch h.1) rfl hS ?_
      refine H_take 6 (.agg (bs M)) rfl (fun W _ => by go_simp) (by kernel_rfl) (by kernel_rfl) (by kernel_rfl) (fun _ _ _ _ h => nomatch h.1) rfl hS ?_
      refine H_take 7 (.int .i64 0) rfl (fun W _ => by go_simp) (by kernel_rfl) (by kernel_rfl) (by kernel_rfl) (fun _ _ _ _ h => nomatch h.1) rfl hS ?_
      refine H_one 9 (by kernel_rfl) (O_skip rfl rfl _ (run_store_row 60 _ _ rfl g8 (bs M) rfl rfl _ _ h8 32 (by kernel_rfl) rfl hMs (bs_one _)) ⟨⟨hS.1.putOther (by omega) _, hS.2.1.putOther (by omega) _, bSetRow hS.2.2.1 (by omega) _, by rw [setRow_size]; exact hS.2.2.2⟩, ?_⟩)
      refine H_one 10 (by kernel_rfl) (O_value rfl rfl (.int .i64 0) _ (by go_simp; rfl) ⟨⟨hS.1.putOther (by omega) _, hS.2.1.putOther (by omega) _, bSetRow hS.2.2.1 (by omega) _, by rw [setRow_size]; exact hS.2.2.2⟩, ?_⟩)
      exact wpAnyH_done (by kernel_rfl) ⟨rfl, g8, v, u, b8, rfl, h8.put _, hS.1.putOther (by omega) _, bSetRow hS.2.2.1 (by omega) _⟩ _
    · intro v u W hS
      refine H_take 5 (.tuple #[.agg (bs M), .int .i64 0]) rfl (fun W _ => by go_simp) (by kernel_rfl) (by kernel_rfl) (by kernel_rfl) (fun _ _ _ _ h => nomatch h.1) rfl hS ?_
      refine H_take 6 (.agg (bs M)) rfl (fun W _ => by go_simp) (by kernel_rfl) (by kernel_rfl) (by kernel_rfl) (fun _ _ _ _ h => nomatch h.1) rfl hS ?_
      refine H_take 7 (.int .i64 0) rfl (fun W _ => by go_simp) (by kernel_rfl) (by kernel_rfl) (by kernel_rfl) (fun _ _ _ _ h => nomatch h.1) rfl hS ?_
      have hS0 := hS
      obtain ⟨s0, s1, s2', s3⟩ := hS0
      refine H_one 8 (by kernel_rfl) (O_value rfl rfl _ _ (exec_alloc_row 60 rfl (bs z32) (by kernel_rfl)) ⟨⟨s0.alloc _, s1.alloc _, s2'.alloc s2'.size _, by simp; omega⟩, ?_⟩)
      have h8 : Row (W.alloc (.cells (bs z32) 60)) W.heap.size 60 (bs z32) := Row.new _ _ _
      have b8 := s3
      have hS' : Row (W.alloc (.cells (bs z32) 60)) w.heap.size 60 (bs z32) ∧ Row (W.alloc (.cells (bs z32) 60)) w3.heap.size 60 (bs T) ∧ Below w.heap.size w (W.alloc (.cells (bs z32) 60)) ∧ w4.heap.size ≤ (W.alloc (.cells (bs z32) 60)).heap.size := ⟨s0.alloc _, s1.alloc _, s2'.alloc s2'.size _, by simp; omega⟩
      clear hS s0 s1 s2' s3
      obtain ⟨g8, hg8⟩ : ∃ g8, g8 = W.heap.size := ⟨_, rfl⟩
      rw [← hg8] at h8 b8 ⊢
      generalize W.alloc (.cells (bs z32) 60) = W at *
      have hS := hS'
      clear hS' hg8
      refine H_one 9 (by kernel_rfl) (O_skip rfl rfl _ (run_store_row 60 _ _ rfl g8 (bs M) rfl rfl _ _ h8 32 (by kernel_rfl) rfl hMs (bs_one _)) ⟨⟨hS.1.putOther (by omega) _, hS.2.1.putOther (by omega) _, bSetRow hS.2.2.1 (by omega) _, by rw [setRow_size]; exact hS.2.2.2⟩, ?_⟩)
      refine H_one 10 (by kernel_rfl) (O_value rfl rfl (.int .i64 0) _ (by go_simp; rfl) ⟨⟨hS.1.putOther (by omega) _, hS.2.1.putOther (by omega) _, bSetRow hS.2.2.1 (by omega) _, by rw [setRow_size]; exact hS.2.2.2⟩, ?_⟩)
      exact wpAnyH_done (by kernel_rfl) ⟨rfl, g8, v, u, b8, rfl, h8.put _, hS.1.putOther (by omega) _, bSetRow hS.2.2.1 (by omega) _⟩ _
  · rintro e a' W ⟨rfl, g8, v, u, hg8, rfl, r8, q5, b5⟩
    have hr8 := r8.lt
    unfold ptr
    go_wp2_with (first
      | (with_reducible (show wpList _ _ _ (⟨_, Op.load 60 _, _, _, _, _⟩ :: _) _ _)
         refine load_row rfl 60 _ rfl g8 rfl _ _ r8 32 5 Tryz.underlying60 (by kernel_rfl) hMs ?_)
      | (with_reducible (show wpList _ _ _ (⟨_, Op.store 60 _ _, _, _, _, _⟩ :: _) _ _)
         refine store_row rfl 60 _ _ rfl w.heap.size (bs M) rfl rfl _ _ q5 32 (by kernel_rfl) (by rfl) hMs (bs_one _) ?_))
    refine bodyPost_ret (result_row rfl _ _ w.heap.size _ _ (q5.put _) 32 5 rfl Tryz.underlying60 (by kernel_rfl) hMs) rfl ⟨by rw [hmac.out], bSetRow b5 (Nat.le_refl _) _⟩
end Go.Proofs.YtlicflmpakkccaaGreatDoor
