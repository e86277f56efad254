/-
  Out of HkRefPad, HkRefMac, HkRefExp, HkRefLab, HkRefMacF, KyRefS, HkHelp, KyWide.
-/
import Derived.Test.YtjccjlhnjihfjaaDoorGh3
import Derived.Test.YtjccjlhnjihfjaaDoorGh4
import Derived.Deep.CutRange
import Derived.Maps.AppendAt
import Derived.Test.YtjccjlhnjihfjaaDoorRows
import Derived.Test.YtjccjlhnjihfjaaDoorGh2
import Derived.WalkKit
import Derived.WalkSpells
import Derived.WalkLawsBesides
import Derived.ArgAppend
import Derived.Laws.OwnMore
import Derived.Deep.AppendLies

/-! What the document's pad answers. -/
namespace Go.Proofs.YtjccjlhnjihfjaaDoor
open Go Go.RowKit

theorem own_mono {w : World} {B B' n : Nat} {e : TypeId} {v : Value} {xs : List Value} (h : w.ownsRow B e 1 v n xs) (hB : B' ≤ B) : w.ownsRow B' e 1 v n xs := by
  obtain ⟨h1, h2⟩ := h
  refine ⟨h1, ?_⟩
  rcases h2 with h2 | ⟨g, c, cur, h3, h4, h5⟩
  · exact .inl h2
  · exact .inr ⟨g, c, cur, h3, Nat.le_trans hB h4, h5⟩
theorem pad_take (k : List By) (x : By) (t : Nat) (hk : k.length = 64) (h : t < 64) : (padX k x).take (t + 1) = (padX k x).take t ++ [gb k t ^^^ x] := by
  have e : (padX k x)[t]? = some (gb k t ^^^ x) := by
    unfold padX gb
    rw [List.getElem?_map, List.getElem?_eq_getElem (by omega)]
    rfl
  rw [List.take_add_one, e]
  rfl
theorem zeros_get (b : List By) (n t : Nat) : gb (b ++ List.replicate n 0) t = if t < b.length then gb b t else 0 := by
  unfold gb
  split
  · rename_i h
    rw [List.getElem?_append_left h]
  · rename_i h
    rw [List.getElem?_append_right (by omega), List.getElem?_replicate]
    split <;> rfl

set_option maxRecDepth 20000 in
set_option maxHeartbeats 1000000 in
theorem refPad_any (k : SL) (x : By) (w : World) (hk : k.Ok w) (hl : k.len ≤ 1048576) :
    Calls Tryd.prog 114 #[.slice k.a k.len k.cap, .int .u8 (v8 x)] w fun e w' => ∃ v, e = .returned v ∧ w'.ownsRow w.heap.size 5 1 v 64 (vb (padX (keyL k.b) x)) ∧ Below w.heap.size w w' := by
  obtain ⟨i0, hi, hz0, hz1, hz2⟩ := info_parts (P := Tryd.prog) (e := 5) (z := .int .u8 0) (size := 1) (bytes := 1) (by kernel_rfl)
  have HK := veil hk
  have hkl := hk.hb
  have hx0 := v8_nn x
  have hx1 := v8_le x
  clear hk
  go_enter Tryd.func114, Tryd.ntmps114
  go_upto_if 13 with fail
  go_cut [5] from 10 to 19 (fun v wx => ∃ kk : SL, v = .slice kk.a kk.len kk.cap ∧ kk.Ok wx ∧ kk.len ≤ 64 ∧ (∀ t, t < 64 → gb (keyL k.b) t = if t < kk.len then gb kk.b t else 0) ∧ Below w.heap.size w wx)
  case first =>
    by_cases h64 : (64 : Int) < (k.len : Int)
    · go_wp2_with fail
      refine (refSum_any k.g k.off k.a k.len k.cap k.b w hkl hl HK.out.nil HK.out.at_ HK.out.lt HK.out.cell).mono ?_
      rintro e1 w1 ⟨rfl, hb1⟩
      have hsum : (bs (sumL k.b)).size = 32 := by rw [bs_size, sumL_length]
      go_wp2_with (first
        | (with_reducible (show wpList _ _ _ (⟨_, Op.alloc 23, _, _, _, _⟩ :: _) _ _)
           refine alloc_row rfl 23 rfl (bs z32) (by kernel_rfl) ?_)
        | (with_reducible (show wpList _ _ _ (⟨_, Op.store 23 _ _, _, _, _, _⟩ :: _) _ _)
           refine store_new (w := w1) (by rfl) 23 _ _ (by rfl) w1.heap.size (bs (sumL k.b)) (by rfl) (by rfl) 23 (bs z32) (by rfl) 32 (by kernel_rfl) (by rfl) hsum (bs_one _) ?_))
      go_meet
      case rel =>
        refine ⟨rowN w1.heap.size 32 (sumL k.b), rfl, rowN_ok (Row.new _ _ _) (sumL_length k.b), (by show 32 ≤ 64; omega), fun t _ => ?_, hb1.alloc hb1.size _⟩
        show gb (keyL k.b) t = if t < 32 then gb (sumL k.b) t else 0
        unfold keyL
        rw [if_pos (by omega), zeros_get, sumL_length]
    · go_wp2_with fail
      go_meet
      case rel =>
        refine ⟨k, rfl, HK.out, by omega, fun t _ => ?_, Below.refl _ _⟩
        unfold keyL
        rw [if_neg (by omega), zeros_get, hkl]
  case rest =>
    obtain ⟨⟨ka, kl, kc, kg, ko, kb⟩, rfl, kok, hk64, hpk, hB1⟩ := hcut
    simp only at hk64 hpk
    generalize wc = W1 at *
    go_wp2_with fail

    have HPK := veil hpk
    go_loopw [8, 9] (fun v i wr => ∃ t : Nat, t ≤ 64 ∧ i = .int .i64 t ∧ wr.ownsRow W1.heap.size 5 1 v t (vb ((padX (keyL k.b) x).take t)) ∧ Below W1.heap.size W1 wr)
      (fun _ i _ => 64 - (intOf i).toNat)
    case atStart => exact ⟨0, by omega, rfl, World.ownsRow_nil _ _ _ _, Below.refl _ _⟩
    case round =>
      obtain ⟨t, ht, rfl, hown, hbel⟩ := hrel
      have HOWN := veil hown
      have HB := veil hbel
      have hsz := hbel.size
      clear hown hbel
      by_cases hlt : t < 64
      · have HTk := veil (pad_take (keyL k.b) x t (keyL_length _) hlt)
        have HG := veil (HPK.out t hlt)
        by_cases hin : t < kl
        · have hat : ka = some ⟨kg, ko, none⟩ := kok.at_ (show 0 < kl by omega)
          subst hat
          have hcx : wr.cell? ⟨kg, ko + t, none⟩ = some (.int .u8 (v8 (gb kb t))) := (HB.out.cell (p := ⟨kg, ko + t, none⟩) (kok.lt (show 0 < kl by omega))).trans (kok.cell t hin)
          rw [HG.out, if_pos hin] at HTk
          have hy0 := v8_nn (gb kb t)
          have hy1 := v8_le (gb kb t)
          generalize gb kb t = y at *
          have hbx := b8x y x
          go_wp2_with (with_reducible (show wpList _ _ _ (⟨some 36, Op.call _, _, _, _, _⟩ :: _) _ _)
                       refine wpList_append_own _ rfl _ _ 28 rfl W1.heap.size 5 i0 (.int .u8 0) 1 1 Tryd.underlying28 hi hz0 hz1 hz2 rfl (by decide) _ t _ rfl (HOWN.out.alloc _) ⟨wr.heap.size, 0, none⟩ 1 1 [.int .u8 (v8 (y ^^^ x))] rfl rfl (cell_one_new _ _ _) (by simp [Value.oneCell']) (by unfold maxLen; omega) (by omega) (by simp; omega) ?_
                       intro v5 w5 hown5 hgrow5 _)
          go_wp2_with fail
          go_roundw
          case rel => exact ⟨t + 1, by omega, by go_num, by rw [HTk.out, vb_append]; exact hown5, (HB.out.alloc hsz _).grown hgrow5 (by simp; omega) (fun q e => ((HOWN.out.alloc (.cells #[] 5)).lt q e).1)⟩
          case measure => simp [intOf]; omega
        · rw [HG.out, if_neg hin] at HTk
          have hx0' : (0 : By) ^^^ x = x := by simp
          rw [hx0'] at HTk
          go_wp2_with (with_reducible (show wpList _ _ _ (⟨some 40, Op.call _, _, _, _, _⟩ :: _) _ _)
                       refine wpList_append_own _ rfl _ _ 28 rfl W1.heap.size 5 i0 (.int .u8 0) 1 1 Tryd.underlying28 hi hz0 hz1 hz2 rfl (by decide) _ t _ rfl (HOWN.out.alloc _) ⟨wr.heap.size, 0, none⟩ 1 1 [.int .u8 (v8 x)] rfl rfl (cell_one_new _ _ _) (by simp [Value.oneCell']) (by unfold maxLen; omega) (by omega) (by simp; omega) ?_
                       intro v5 w5 hown5 hgrow5 _)
          go_wp2_with fail
          go_roundw
          case rel => exact ⟨t + 1, by omega, by go_num, by rw [HTk.out, vb_append]; exact hown5, (HB.out.alloc hsz _).grown hgrow5 (by simp; omega) (fun q e => ((HOWN.out.alloc (.cells #[] 5)).lt q e).1)⟩
          case measure => simp [intOf]; omega
      · obtain rfl : t = 64 := by omega
        have hown := HOWN.out
        rw [List.take_of_length_le (by rw [padX_length, keyL_length]; exact Nat.le_refl _)] at hown
        go_wp2_with fail
        go_ret
        exact ⟨_, rfl, own_mono hown hB1.size, hB1.trans (HB.out.mono hB1.size)⟩
end Go.Proofs.YtjccjlhnjihfjaaDoor

/-! What the document's mac and Mac answer. -/
namespace Go.Proofs.YtjccjlhnjihfjaaDoor
open Go Go.RowKit


set_option maxRecDepth 20000 in
set_option maxHeartbeats 1000000 in
theorem refMac_any (k b : SL) (w : World) (hk : k.Ok w) (hb : b.Ok w) (hkl : k.len ≤ 1048576) (hbl : b.len ≤ 1048512) :
    Calls Tryd.prog 107 #[.slice k.a k.len k.cap, .slice b.a b.len b.cap] w fun e w' => e = .returned (.agg (bs (macK (keyL k.b) b.b))) ∧ Below w.heap.size w w' := by
  obtain ⟨i0, hi, hz0, hz1, hz2⟩ := info_parts (P := Tryd.prog) (e := 5) (z := .int .u8 0) (size := 1) (bytes := 1) (by kernel_rfl)
  have HK := veil hk
  have HB := veil hb
  have hbb := hb.hb
  clear hk hb
  have hpl : ∀ x, (padX (keyL k.b) x).length = 64 := fun x => by rw [padX_length, keyL_length]
  have HPL := veil hpl
  clear hpl
  have b0 : Below w.heap.size w (w.alloc (.cells (bs z32) 23)) := (Below.refl _ w).alloc (Nat.le_refl _) _
  have q0 : Row (w.alloc (.cells (bs z32) 23)) w.heap.size 23 (bs z32) := Row.new _ _ _
  go_enter Tryd.func107, Tryd.ntmps107
  go_wp2_with (with_reducible (show wpList _ _ _ (⟨_, Op.alloc 23, _, _, _, _⟩ :: _) _ _)
               refine alloc_row rfl 23 rfl (bs z32) (by kernel_rfl) ?_)
  refine (refPad_any k 54 _ (HK.out.below b0) hkl).mono ?_
  rintro e1 w1 ⟨v1, rfl, hown1, hb1⟩
  have q1 := q0.below hb1 q0.lt
  have b1 := b0.trans (hb1.mono b0.size)
  have hs1 := hb1.size
  rw [World.size_alloc] at hs1 hown1
  have HOWN := veil hown1
  have HB1 := veil b1
  have HQ1 := veil q1
  clear hb1 hown1 q0 b0 b1 q1
  go_wp2_with (with_reducible (show wpList _ _ _ (⟨some 13, Op.call _, _, _, _, _⟩ :: _) _ _)
               refine append_sl rfl _ _ 28 rfl (w.heap.size + 1) i0 Tryd.underlying28 hi hz0 hz1 hz2 v1 64 _ rfl HOWN.out b (HB.out.below HB1.out) rfl (by omega) hs1 ?_
               intro v2 w2 hown2 hgrow2)
  obtain ⟨s2, rfl, hsl2, hsb2, hok2, _⟩ := SL.of_own hown2
  have b2 := HB1.out.grown hgrow2 (by omega) (fun q e => by have := (HOWN.out.lt q e).1; omega)
  have q2 : Row w2 w.heap.size 23 (bs z32) := (hgrow2.block w.heap.size HQ1.out.lt (fun e => by have := (HOWN.out.lt _ e.symm).1; omega)).trans HQ1.out
  clear hgrow2 hown2 HOWN HB1 HQ1
  unfold SL.v
  refine (refSum_any s2.g s2.off s2.a s2.len s2.cap s2.b w2 hok2.hb (by omega) hok2.nil hok2.at_ hok2.lt hok2.cell).mono ?_
  rintro e3 w3 ⟨rfl, hb3⟩
  rw [hsb2]
  have q3 := q2.below hb3 q2.lt
  have b3 := b2.trans (hb3.mono b2.size)
  obtain ⟨T, hT⟩ : ∃ T, T = sumL (padX (keyL k.b) 54 ++ b.b) := ⟨_, rfl⟩
  have hTl : T.length = 32 := by rw [hT, sumL_length]
  have HTT := veil hT
  rw [← hT]
  clear hb3 b2 q2 hT hok2 hsb2 hsl2
  have hsum : (bs T).size = 32 := by rw [bs_size, hTl]
  have hs3 := b3.size
  have hq3 := q3.lt
  go_wp2_with (first
    | (with_reducible (show wpList _ _ _ (⟨_, Op.alloc 23, _, _, _, _⟩ :: _) _ _)
       refine alloc_row rfl 23 rfl (bs z32) (by kernel_rfl) ?_)
    | (with_reducible (show wpList _ _ _ (⟨_, Op.store 23 _ _, _, _, _, _⟩ :: _) _ _)
       refine store_new (w := w3) (by rfl) 23 _ _ (by rfl) w3.heap.size (bs T) (by rfl) (by rfl) 23 (bs z32) (by rfl) 32 (by kernel_rfl) (by rfl) hsum (bs_one _) ?_))
  have q4 := q3.alloc (.cells (bs T) 23)
  have r5 : Row (w3.alloc (.cells (bs T) 23)) w3.heap.size 23 (bs T) := Row.new _ _ _
  have b4 := b3.alloc hs3 (.cells (bs T) 23)
  have hsz4 : (w3.alloc (.cells (bs T) 23)).heap.size = w3.heap.size + 1 := by simp
  generalize w3.alloc (.cells (bs T) 23) = w4 at *
  obtain ⟨M, hM⟩ : ∃ M, M = sumL (padX (keyL k.b) 92 ++ T) := ⟨_, rfl⟩
  have hMl : M.length = 32 := by rw [hM, sumL_length]
  have HMM := veil hM
  have hmac : Hid (M = macK (keyL k.b) b.b) := show M = _ by rw [hM, HTT.out]; rfl
  have hMs : (bs M).size = 32 := by rw [bs_size, hMl]
  clear hM
  refine wp_mono (Q := fun e a' W => e = .normal ∧ ∃ g8 v u, w4.heap.size ≤ g8 ∧ a' = ({ tmps := #[.slice k.a k.len k.cap, .slice b.a b.len b.cap, undef, undef, .pointer (some ⟨w.heap.size, 0, none⟩), .pointer (some ⟨w3.heap.size, 0, none⟩), .int .i64 0, ptr g8, .int .i64 0, .tuple #[.agg (bs T), .int .i64 0], .slice k.a k.len k.cap, v1, .slice b.a b.len b.cap, .slice s2.a s2.len s2.cap, .tuple #[.agg (bs T), .int .i64 0], .agg (bs T), .int .i64 0, (.tuple #[.agg (bs M), .int .i64 0]), .slice k.a k.len k.cap, v, .slice (some ⟨w3.heap.size, 0, none⟩) 32 32, u, (.tuple #[.agg (bs M), .int .i64 0]), .agg (bs M), .int .i64 0, undef], defers := [] } : Act) ∧
      Row W g8 23 (bs M) ∧ Row W w.heap.size 23 (bs z32) ∧ Below w.heap.size w W) ?_ ?_
  · refine held_any (S := fun W => Row W w.heap.size 23 (bs z32) ∧ Row W w3.heap.size 23 (bs T) ∧ Below w.heap.size w W ∧ w4.heap.size ≤ W.heap.size) (by kernel_rfl) ⟨q4.drew, r5.drew, b4.drew, Nat.le_refl _⟩ (fun W hW => ?_)
    refine H_take 0 (.slice k.a k.len k.cap) rfl (fun W _ => by go_simp) (by kernel_rfl) (by kernel_rfl) (by kernel_rfl) (fun _ _ _ _ h => nomatch h.1) rfl hW ?_
    refine H_take 2 (.slice (some ⟨w3.heap.size, 0, none⟩) 32 32) rfl (fun W _ => by go_simp) (by kernel_rfl) (by kernel_rfl) (by kernel_rfl) (fun _ _ _ _ h => nomatch h.1) rfl hW ?_
    refine three_one w4.heap.size 23 (bs z32) 1 3 4 8
      (fun p8 v19 v21 v22 => { tmps := #[.slice k.a k.len k.cap, .slice b.a b.len b.cap, undef, undef, .pointer (some ⟨w.heap.size, 0, none⟩), .pointer (some ⟨w3.heap.size, 0, none⟩), .int .i64 0, p8, undef, .tuple #[.agg (bs T), .int .i64 0], .slice k.a k.len k.cap, v1, .slice b.a b.len b.cap, .slice s2.a s2.len s2.cap, .tuple #[.agg (bs T), .int .i64 0], .agg (bs T), .int .i64 0, undef, .slice k.a k.len k.cap, v19, .slice (some ⟨w3.heap.size, 0, none⟩) 32 32, v21, v22, undef, undef, undef], defers := [] })
      (fun c1 c3 c4 c8 => #[true, c1, true, c3, c4, false, false, false, c8, false, false])
      (fun v W => W.ownsRow w4.heap.size 5 1 v 64 (vb (padX (keyL k.b) 92))) (fun u W => ∃ s : SL, u = .slice s.a s.len s.cap ∧ s.Ok W ∧ s.b = padX (keyL k.b) 92 ++ T ∧ s.len = 96) (.tuple #[.agg (bs M), .int .i64 0])
      ?_ (fun _ => rfl) (fun _ => rfl) (fun _ => rfl) (fun _ _ => rfl) ?_ ?_ ?_ ?_ ?_ ?_ ?_ ?_ (fun W h => h.2.2.2) 5 ?_ ?_ W hW
    · intro c1 c3 c8 h1
      cases c1 <;> cases c3 <;> cases c8 <;> first | (simp at h1; done) | kernel_rfl
    · intro p8 W K hS hK
      refine O_call rfl rfl 114 #[.slice k.a k.len k.cap, .int .u8 (v8 92)] (by go_simp; rfl) ?_
      refine (refPad_any k 92 W (HK.out.below hS.2.2.1) hkl).mono ?_
      rintro e W' ⟨v, rfl, hown, hb⟩
      exact ⟨_, rfl, hK v W' hb (own_mono hown hS.2.2.2) (fun q e => (hown.lt q e).1)⟩
    · intro p8 v W K hS hI hK
      obtain ⟨v', W', hr, hown, hgr⟩ := append_row W w4.heap.size 28 v 64 _ hI w3.heap.size 32 _ T hTl hS.2.1 (by omega) hS.2.2.2
      obtain ⟨s, hv, hsl, hsb, hok, _⟩ := SL.of_own hown
      have hkeep : ∀ j, j < W.heap.size → v.ownBlock ≠ some j → W'.heap[j]? = W.heap[j]? := fun j hj hne => hgr.block j hj (fun e => hne e.symm)
      have hne : ∀ j, j < w4.heap.size → v.ownBlock ≠ some j := fun j hj e => by have := (hI.lt j e).1; omega
      refine O_value rfl rfl v' W' (exec_append _ _ _ _ rfl _ _ rfl rfl v' W' hr) (hK v' W' ⟨?_, ?_, ?_, ?_⟩ ⟨s, hv.symm, hok, hsb, hsl⟩ hgr.size hkeep)
      · exact (hkeep _ hS.1.lt (hne _ (by omega))).trans hS.1
      · exact (hkeep _ hS.2.1.lt (hne _ (by omega))).trans hS.2.1
      · exact hS.2.2.1.grown hgr hS.2.2.1.size (fun q e => by have := (hI.lt q e).1; omega)
      · exact Nat.le_trans hS.2.2.2 hgr.size
    · rintro p8 v u W K hS ⟨s, rfl, hok, hsb, hsl⟩ hK
      refine O_call rfl rfl 113 #[.slice s.a s.len s.cap] (by go_simp) ?_
      refine (refSum_any s.g s.off s.a s.len s.cap s.b W hok.hb (by omega) hok.nil hok.at_ hok.lt hok.cell).mono ?_
      rintro e W' ⟨rfl, hb⟩
      rw [hsb, ← HMM.out]
      exact ⟨_, rfl, hK W' hb⟩
    · intro v u r W K hK
      exact O_value rfl rfl _ _ (exec_alloc_row 23 rfl (bs z32) (by kernel_rfl)) hK
    · intro v W hI q e
      exact (hI.lt q e).2
    · rintro W W' ⟨h0, h1, h2, h3⟩ hb
      exact ⟨h0.below hb h0.lt, h1.below hb h1.lt, h2.trans (hb.mono h2.size), Nat.le_trans h3 hb.size⟩
    · intro v W W' hI hb
      exact own_below hI hb
    · rintro u W W' ⟨s, rfl, hok, hsb, hsl⟩ hb
      exact ⟨s, rfl, hok.below hb, hsb, hsl⟩
    · intro g8 v u W hS h8 b8
      refine H_take 5 (.tuple #[.agg (bs M), .int .i64 0]) rfl (fun W _ => by go_simp) (by kernel_rfl) (by kernel_rfl) (by kernel_rfl) (fun _ _ _ _ h => nomatch h.1) rfl hS ?_
      refine H_take 6 (.agg (bs M)) rfl (fun W _ => by go_simp) (by kernel_rfl) (by kernel_rfl) (by kernel_rfl) (fun _ _ _ _ h => nomatch h.1) rfl hS ?_
      refine H_take 7 (.int .i64 0) rfl (fun W _ => by go_simp) (by kernel_rfl) (by kernel_rfl) (by kernel_rfl) (fun _ _ _ _ h => nomatch h.1) rfl hS ?_
      refine H_one 9 (by kernel_rfl) (O_skip rfl rfl _ (run_store_row 23 _ _ rfl g8 (bs M) rfl rfl _ _ h8 32 (by kernel_rfl) rfl hMs (bs_one _)) ⟨⟨hS.1.putOther (by omega) _, hS.2.1.putOther (by omega) _, bSetRow hS.2.2.1 (by omega) _, by rw [setRow_size]; exact hS.2.2.2⟩, ?_⟩)
      refine H_one 10 (by kernel_rfl) (O_value rfl rfl (.int .i64 0) _ (by go_simp; rfl) ⟨⟨hS.1.putOther (by omega) _, hS.2.1.putOther (by omega) _, bSetRow hS.2.2.1 (by omega) _, by rw [setRow_size]; exact hS.2.2.2⟩, ?_⟩)
      exact wpAnyH_done (by kernel_rfl) ⟨rfl, g8, v, u, b8, rfl, h8.put _, hS.1.putOther (by omega) _, bSetRow hS.2.2.1 (by omega) _⟩ _
    · intro v u W hS
      refine H_take 5 (.tuple #[.agg (bs M), .int .i64 0]) rfl (fun W _ => by go_simp) (by kernel_rfl) (by kernel_rfl) (by kernel_rfl) (fun _ _ _ _ h => nomatch h.1) rfl hS ?_
      refine H_take 6 (.agg (bs M)) rfl (fun W _ => by go_simp) (by kernel_rfl) (by kernel_rfl) (by kernel_rfl) (fun _ _ _ _ h => nomatch h.1) rfl hS ?_
      refine H_take 7 (.int .i64 0) rfl (fun W _ => by go_simp) (by kernel_rfl) (by kernel_rfl) (by kernel_rfl) (fun _ _ _ _ h => nomatch h.1) rfl hS ?_
      have hS0 := hS
      obtain ⟨s0, s1, s2', s3⟩ := hS0
      refine H_one 8 (by kernel_rfl) (O_value rfl rfl _ _ (exec_alloc_row 23 rfl (bs z32) (by kernel_rfl)) ⟨⟨s0.alloc _, s1.alloc _, s2'.alloc s2'.size _, by simp; omega⟩, ?_⟩)
      have h8 : Row (W.alloc (.cells (bs z32) 23)) W.heap.size 23 (bs z32) := Row.new _ _ _
      have b8 := s3
      have hS' : Row (W.alloc (.cells (bs z32) 23)) w.heap.size 23 (bs z32) ∧ Row (W.alloc (.cells (bs z32) 23)) w3.heap.size 23 (bs T) ∧ Below w.heap.size w (W.alloc (.cells (bs z32) 23)) ∧ w4.heap.size ≤ (W.alloc (.cells (bs z32) 23)).heap.size := ⟨s0.alloc _, s1.alloc _, s2'.alloc s2'.size _, by simp; omega⟩
      clear hS s0 s1 s2' s3
      obtain ⟨g8, hg8⟩ : ∃ g8, g8 = W.heap.size := ⟨_, rfl⟩
      rw [← hg8] at h8 b8 ⊢
      generalize W.alloc (.cells (bs z32) 23) = W at *
      have hS := hS'
      clear hS' hg8
      refine H_one 9 (by kernel_rfl) (O_skip rfl rfl _ (run_store_row 23 _ _ rfl g8 (bs M) rfl rfl _ _ h8 32 (by kernel_rfl) rfl hMs (bs_one _)) ⟨⟨hS.1.putOther (by omega) _, hS.2.1.putOther (by omega) _, bSetRow hS.2.2.1 (by omega) _, by rw [setRow_size]; exact hS.2.2.2⟩, ?_⟩)
      refine H_one 10 (by kernel_rfl) (O_value rfl rfl (.int .i64 0) _ (by go_simp; rfl) ⟨⟨hS.1.putOther (by omega) _, hS.2.1.putOther (by omega) _, bSetRow hS.2.2.1 (by omega) _, by rw [setRow_size]; exact hS.2.2.2⟩, ?_⟩)
      exact wpAnyH_done (by kernel_rfl) ⟨rfl, g8, v, u, b8, rfl, h8.put _, hS.1.putOther (by omega) _, bSetRow hS.2.2.1 (by omega) _⟩ _
  · rintro e a' W ⟨rfl, g8, v, u, hg8, rfl, r8, q5, b5⟩
    have hr8 := r8.lt
    unfold ptr
    go_wp2_with (first
      | (with_reducible (show wpList _ _ _ (⟨_, Op.load 23 _, _, _, _, _⟩ :: _) _ _)
         refine load_row rfl 23 _ rfl g8 rfl _ _ r8 32 5 Tryd.underlying23 (by kernel_rfl) hMs ?_)
      | (with_reducible (show wpList _ _ _ (⟨_, Op.store 23 _ _, _, _, _, _⟩ :: _) _ _)
         refine store_row rfl 23 _ _ rfl w.heap.size (bs M) rfl rfl _ _ q5 32 (by kernel_rfl) (by rfl) hMs (bs_one _) ?_))
    refine bodyPost_ret (result_row rfl _ _ w.heap.size _ _ (q5.put _) 32 5 rfl Tryd.underlying23 (by kernel_rfl) hMs) rfl ⟨by rw [hmac.out], bSetRow b5 (Nat.le_refl _) _⟩
end Go.Proofs.YtjccjlhnjihfjaaDoor

/-! What the document's Expand answers. -/
namespace Go.Proofs.YtjccjlhnjihfjaaDoor
open Go Go.RowKit

section
variable {P : Program} {ops : Array Oper} {rest : List Oper} {o : Oper} {a : Act} {w : World} {Q : Exit → Act → World → Prop}
/-- What came in is appended to a row of the call's own: where the new one lies. -/
theorem append_sl_at (hgd : o.guard = none) (s x : Operand) (t : TypeId) (ho : o.op = .call { callee := .builtin .append, args := #[s, x], argTypes := #[t, t] })
    (base : Nat) (i : TypeInfo) (ht : P.underlying t = some (.slice 5)) (hi : P.info? 5 = some i) (hz : i.zero = some (.int .u8 0)) (hsize : i.size = 1) (hby : i.bytes = 1)
    (v : Value) (n : Nat) (xs : List By) (hs : a.eval s = v) (hown : w.ownsRow base 5 1 v n (vb xs)) (q : SL) (hq : q.Ok w) (hx : a.eval x = .slice q.a q.len q.cap) (hl : n + q.len ≤ 8388608) (hbase : base ≤ w.heap.size)
    (h : ∀ v' w', w'.ownsRow base 5 1 v' (n + q.len) (vb (xs ++ q.b)) → w.grownBy w' v.ownBlock → (v'.ownBlock = v.ownBlock ∨ v'.ownBlock = some w.heap.size) → wpList P ops Q rest (a.put o.dst v') w') : wpList P ops Q (o :: rest) a w := by
  obtain ⟨ad, len, cap, g, off, b⟩ := q
  cases ad with
  | none =>
    obtain ⟨h1, h2⟩ := hq.nil rfl
    simp only at h1 h2
    subst h1 h2
    have hb0 : b = [] := List.eq_nil_of_length_eq_zero hq.hb
    subst hb0
    refine wpList_append_own_none hgd s x t ho base 5 i 1 ht hi v n (vb xs) hs hown hx (h _ _ ?_ ⟨rfl, rfl, rfl, Nat.le_refl _, fun _ _ _ => rfl⟩ (.inl rfl))
    simpa using hown
  | some ad =>
    have hb : b.length = len := hq.hb
    obtain ⟨v', w', hr, h1, h2, _, h4⟩ := run_append_own_at (P := P) w base t o.type 5 i (.int .u8 0) 1 1 ht hi hz hsize hby rfl (by decide) v n (vb xs) hown ad len cap (vb b) (by rw [vb_length, hb, Nat.mul_one])
      (fun j u hj => by
        obtain ⟨h1, rfl⟩ := vb_get' b j u hj
        have e := hq.at_ (show 0 < len by omega)
        simp only at e
        injection e with e
        subst e
        rw [add_at]
        exact hq.cell j (show j < len by omega)) (vb_one b) (by unfold maxLen; simp only at hl; omega) (by simp only at hl; omega) hbase
    rw [← vb_append] at h1
    refine wpList_plain hgd fun _ hK => ?_
    unfold Oper.wp
    rw [exec_append s x t t ho v _ hs hx v' w' hr]
    exact hK _ _ (h v' w' h1 h2 h4)
end

theorem partTo_split' (k info : List By) (m d : Nat) : ∃ l : List Prt, partTo k info (m + d) = partTo k info m ++ l := by
  induction d with
  | zero => exact ⟨[], by simp⟩
  | succ d ih =>
    obtain ⟨l, hl⟩ := ih
    exact ⟨l ++ [hkPartAt k info (m + d)], by rw [← Nat.add_assoc, partTo_succ, hl, List.append_assoc]⟩
theorem joined_append' (a b : List Prt) : joined (a ++ b) = joined a ++ joined b := by simp [joined]
theorem expandL_many (k info : List By) (n m : Nat) (h : n ≤ 32 * m) : (joined (partTo k info m)).take n = expandL k info n := by
  unfold expandL toldL
  have hd : m = nparts n + (m - nparts n) := by unfold nparts; omega
  obtain ⟨l, hl⟩ := partTo_split' k info (nparts n) (m - nparts n)
  rw [← hd] at hl
  rw [hl, joined_append', List.take_append_of_le_length (by rw [joined_length, partTo_length]; unfold nparts; omega)]
theorem own_shape2 {w : World} {base n : Nat} {e : TypeId} {v : Value} {xs : List Value} (h : w.ownsRow base e 1 v n xs) : ∃ a c, v = .slice a n c := by
  rcases h.2 with ⟨rfl, rfl⟩ | ⟨g, c, cur, rfl, _⟩
  · exact ⟨_, _, rfl⟩
  · exact ⟨_, _, rfl⟩

theorem kept_sep {w w' : World} {row : Option Nat} {base n : Nat} {v : Value} {xs : List Value} (h : w.ownsRow base 5 1 v n xs) (hg : w.grownBy w' row) (hs : ∀ g, v.ownBlock = some g → row ≠ some g) : w'.ownsRow base 5 1 v n xs := by
  refine h.kept hg ?_
  cases e : v.ownBlock with
  | none => exact .inl rfl
  | some g => exact .inr (fun e2 => hs g e e2.symm)

set_option maxRecDepth 20000 in
set_option maxHeartbeats 2000000 in
theorem refExpand_ok (k q : SL) (N : Nat) (w : World) (hk : k.Ok w) (hq : q.Ok w) (hN : N ≤ 8160) (hkl : k.len ≤ 1048576) (hql : q.len ≤ 1048479) :
    Calls Tryd.prog 106 #[.slice k.a k.len k.cap, .slice q.a q.len q.cap, .int .i64 (N : Int)] w fun e w' => ∃ s : SL, e = .returned (.tuple #[.slice s.a s.len s.cap, .int .i64 0]) ∧ s.Ok w' ∧ s.b = expandL (keyL k.b) q.b N ∧ Below w.heap.size w w' := by
  obtain ⟨i0, hi, hz0, hz1, hz2⟩ := info_parts (P := Tryd.prog) (e := 5) (z := .int .u8 0) (size := 1) (bytes := 1) (by kernel_rfl)
  have HK := veil hk
  have HQ := veil hq
  have hqb := hq.hb
  clear hk hq
  have g1 : ¬ (N : Int) < 0 := by omega
  have g2 : ¬ (8160 : Int) < (N : Int) := by omega
  have g3 : ¬ (1048576 : Int) < (k.len : Int) := by omega
  have g4 : ¬ (1048479 : Int) < (q.len : Int) := by omega
  go_enter Tryd.func106, Tryd.ntmps106
  go_wp2_with fail
  go_loopw [8, 9, 10] (fun v t iv wr => ∃ (i n : Nat) (a : Option Addr) (L c : Nat), L = 32 * i ∧ 32 * i < N + 32 ∧ iv = .int .i64 ((i : Int) + 1) ∧ v = .slice a L c ∧ wr.ownsRow w.heap.size 5 1 (.slice a L c) L (vb (joined (partTo (keyL k.b) q.b i))) ∧ n = (partL (keyL k.b) q.b i).length ∧ wr.ownsRow w.heap.size 5 1 t n (vb (partL (keyL k.b) q.b i)) ∧ (∀ g, (Value.slice a L c).ownBlock = some g → t.ownBlock ≠ some g) ∧ Below w.heap.size w wr)
    (fun v _ _ _ => N - slen v)
  case atStart => exact ⟨0, 0, none, 0, 0, rfl, by omega, rfl, rfl, World.ownsRow_nil _ _ _ _, rfl, World.ownsRow_nil _ _ _ _, (fun g e => by cases e), Below.refl _ _⟩
  case round =>
    obtain ⟨i, n, a, L, c, hL, hiN, rfl, rfl, hout, hn, ht, hsep, hbel⟩ := hrel
    have hn32 : n ≤ 32 := by rw [hn]; exact partL_le _ _ _
    have HL := veil hL
    have HOUT := veil hout
    have HTT := veil ht
    have HSEP := veil hsep
    have HBL := veil hbel
    have hsz := hbel.size
    clear hL hout ht hsep hbel hn
    by_cases hlt : L < N
    · have hi255 : i < 255 := by have := HL.out; omega
      have hcv : IntKind.u8.wrap ((i : Int) + 1) = (i : Int) + 1 := by rw [IntKind.wrap_u8]; omega
      have HPB := veil (part_byte i hi255)
      have HQr := veil (HQ.out.below HBL.out)
      go_wp2_with (first
        | (with_reducible (show wpList _ _ _ (⟨some 34, Op.call _, _, _, _, _⟩ :: _) _ _)
           refine append_sl_at rfl _ _ 28 rfl w.heap.size i0 Tryd.underlying28 hi hz0 hz1 hz2 _ n _ rfl HTT.out q HQr.out rfl (by omega) hsz ?_
           intro v1 w1 hown1 hgrow1 hat1
           have hs1 := hgrow1.size)
        | (with_reducible (show wpList _ _ _ (⟨some 39, Op.call _, _, _, _, _⟩ :: _) _ _)
           refine append_sl_at rfl _ _ 28 rfl w.heap.size i0 Tryd.underlying28 hi hz0 hz1 hz2 _ (n + q.len) _ rfl (hown1.alloc _) (rowN w1.heap.size 1 [BitVec.ofNat 8 (i + 1)]) (by
             have e : (#[.int .u8 ((i : Int) + 1)] : Array Value) = bs [BitVec.ofNat 8 (i + 1)] := by
               unfold bs
               rw [List.map_cons, HPB.out]
               rfl
             rw [e]
             exact rowN_ok (Row.new _ _ _) rfl) rfl (by show n + q.len + 1 ≤ 8388608; omega) (by simp; omega) ?_
           intro v2 w2 hown2 hgrow2 hat2))
      have O1 := kept_sep HOUT.out hgrow1 (fun g e => HSEP.out g e)
      have olt : ∀ g, (Value.slice a L c).ownBlock = some g → g < wr.heap.size := fun g e => (HOUT.out.lt g e).2
      have sep1 : ∀ g, (Value.slice a L c).ownBlock = some g → v1.ownBlock ≠ some g := fun g e e2 => by
        rcases hat1 with h | h
        · exact HSEP.out g e (h ▸ e2)
        · rw [h] at e2
          injection e2 with e2
          have := olt g e
          omega
      have O2 := kept_sep (O1.alloc (.cells #[.int .u8 ((i : Int) + 1)] 5)) hgrow2 (fun g e => sep1 g e)
      have b1 : Below w.heap.size w w1 := HBL.out.grown hgrow1 hsz (fun z e => (HTT.out.lt z e).1)
      have b2 : Below w.heap.size w w2 := (b1.alloc b1.size _).grown hgrow2 (by have := b1.size; simp; omega) (fun z e => ((hown1.alloc (.cells #[] 5)).lt z e).1)
      have hs2 := hgrow2.size
      rw [World.size_alloc] at hs2
      obtain ⟨s2, rfl, hsl2, hsb2, hok2, _⟩ := SL.of_own hown2
      have hpart : macK (keyL k.b) s2.b = partL (keyL k.b) q.b (i + 1) := by
        rw [hsb2]
        show macK (keyL k.b) ((partL (keyL k.b) q.b i ++ q.b) ++ [BitVec.ofNat 8 (i + 1)]) = _
        rw [List.append_assoc]
        rfl
      have HP := veil hpart
      have HO2 := veil O2
      have HB2 := veil b2
      have HS2 := veil hok2
      have hl2 : s2.len ≤ 1048512 := by
        have : s2.len = n + q.len + 1 := hsl2
        omega
      clear O1 O2 hown1 hgrow1 hown2 hgrow2 hat1 hat2 sep1 b1 b2 hpart hok2 hsb2 HTT HSEP HQr
      unfold SL.v
      refine (refMac_any k s2 w2 (HK.out.below HB2.out) HS2.out hkl hl2).mono ?_
      rintro e3 w3 ⟨rfl, hb3⟩
      rw [HP.out]
      have HO3 := veil (own_below HO2.out hb3)
      have HB3 := veil (HB2.out.trans (hb3.mono HB2.out.size))
      have hs3 := hb3.size
      clear hb3 HO2 HB2 HS2 HP hl2
      have hXl := partL_length (keyL k.b) q.b i
      have HJ : Hid (joined (partTo (keyL k.b) q.b (i + 1)) = joined (partTo (keyL k.b) q.b i) ++ partL (keyL k.b) q.b (i + 1)) := show _ = _ by rw [partTo_succ, joined_snoc]; rfl
      obtain ⟨X, hX⟩ : ∃ X, X = partL (keyL k.b) q.b (i + 1) := ⟨_, rfl⟩
      rw [← hX] at hXl HJ ⊢
      have HX := veil hX
      clear hX
      have hXs : (bs X).size = 32 := by rw [bs_size, hXl]
      have hws : w.heap.size ≤ w3.heap.size := HB3.out.size
      go_wp2_with (first
        | (with_reducible (show wpList _ _ _ (⟨_, Op.alloc 23, _, _, _, _⟩ :: _) _ _)
           refine alloc_row rfl 23 rfl (bs z32) (by kernel_rfl) ?_)
        | (with_reducible (show wpList _ _ _ (⟨_, Op.store 23 _ _, _, _, _, _⟩ :: _) _ _)
           refine store_new (w := w3) (by rfl) 23 _ _ (by rfl) w3.heap.size (bs X) (by rfl) (by rfl) 23 (bs z32) (by rfl) 32 (by kernel_rfl) (by rfl) hXs (bs_one _) ?_)
        | (with_reducible (show wpList _ _ _ (⟨some 45, Op.call _, _, _, _, _⟩ :: _) _ _)
           refine Hid.out ?_))
      refine show wpList _ _ _ _ _ _ from ?_
      have hmade : ((w3.alloc (.cells (bs X) 23)).alloc (.cells #[] 5)).ownsRow w.heap.size 5 1 (.slice (some ⟨w3.heap.size + 1, 0, none⟩) 0 0) 0 (vb []) := by
        have := World.ownsRow_made (base := w.heap.size) (e := 5) (size := 1) (w3.alloc (.cells (bs X) 23)) #[] 0 (by rw [World.size_alloc]; omega) (Nat.zero_le _) rfl
        rw [World.size_alloc] at this
        exact this
      refine append_sl_at rfl _ _ 28 rfl w.heap.size i0 Tryd.underlying28 hi hz0 hz1 hz2 _ 0 [] rfl hmade (rowN w3.heap.size 32 X) ((rowN_ok (Row.new w3 23 (bs X)) hXl).alloc _) rfl (by show 0 + 32 ≤ 8388608; omega) (by simp; omega) ?_
      intro v6 w6 hown6 hgrow6 hat6
      have hsn : (w3.alloc (.cells (bs X) 23)).heap.size = w3.heap.size + 1 := by simp
      have hr6 : Row w6 w3.heap.size 23 (bs X) := (hgrow6.block _ (by simp; omega) (fun e => by injection e with e; have e' : w3.heap.size = w3.heap.size + 1 := e; omega)).trans ((Row.new w3 23 (bs X)).alloc _)
      have hs6 := hgrow6.size
      rw [World.size_alloc, World.size_alloc] at hs6
      have ho6 := kept_sep ((HO3.out.alloc (.cells (bs X) 23)).alloc (.cells #[] 5)) hgrow6 (fun g e e2 => by
        have h1 := olt g e
        injection e2 with e2
        have e3 : w3.heap.size + 1 = g := e2
        omega)
      have sep6 : ∀ g, (Value.slice a L c).ownBlock = some g → v6.ownBlock ≠ some g := fun g e e2 => by
        have h1 := olt g e
        rcases hat6 with h | h
        · rw [h] at e2
          injection e2 with e2
          have e3 : w3.heap.size + 1 = g := e2
          omega
        · rw [h] at e2
          injection e2 with e2
          simp at e2
          omega
      have b6 : Below w.heap.size w w6 := ((HB3.out.alloc hws _).alloc (by simp; omega) _).grown hgrow6 (by simp; omega) (fun z e => by
        injection e with e
        have e3 : w3.heap.size + 1 = z := e
        omega)
      have HO6 := veil ho6
      have HR6 := veil hr6
      have HT6 := veil hown6
      have HS6 := veil sep6
      have HB6 := veil b6
      clear ho6 hr6 hown6 sep6 b6 hgrow6 hat6 HO3 HB3
      go_wp2_with (with_reducible (show wpList _ _ _ (⟨some 48, Op.call _, _, _, _, _⟩ :: _) _ _)
                   refine append_sl_at rfl _ _ 28 rfl w.heap.size i0 Tryd.underlying28 hi hz0 hz1 hz2 _ L _ rfl HO6.out (rowN w3.heap.size 32 X) (rowN_ok HR6.out hXl) rfl (by show L + 32 ≤ 8388608; omega) HB6.out.size ?_
                   intro v7 w7 hown7 hgrow7 hat7
                   obtain ⟨a7, c7, rfl⟩ := own_shape2 hown7)
      go_wp2_with fail
      go_roundw
      case rel =>
        have ht7 := kept_sep HT6.out hgrow7 (fun g e e2 => HS6.out g e2 e)
        refine ⟨i + 1, 32, a7, L + 32, c7, by have := HL.out; omega, by have := HL.out; omega, by go_num, rfl, ?_, (partL_length _ _ _).symm, ?_, fun g e e2 => ?_, HB6.out.grown hgrow7 HB6.out.size (fun z e => (HO6.out.lt z e).1)⟩
        · rw [HJ.out]
          exact hown7
        · rw [← HX.out]
          exact ht7
        · rcases hat7 with h | h
          · exact HS6.out g (h ▸ e) e2
          · have h1 : (Value.slice a7 (L + 32) c7).ownBlock = some w6.heap.size := h
            rw [h1] at e
            injection e with e
            have := (HT6.out.lt g e2).2
            omega
      case measure =>
        show N - (L + 32) < N - L
        omega
    · have HEX := veil (expandL_many (keyL k.b) q.b N i (by have := HL.out; omega))
      have hjl : (joined (partTo (keyL k.b) q.b i)).length = L := by rw [joined_length, partTo_length, HL.out]
      obtain ⟨s, hv, hsl, hsb, hok, _⟩ := SL.of_own HOUT.out
      rcases HOUT.out.2 with ⟨h0, h1⟩ | ⟨g, cap, cur, h0, _, _, hLc, hcm, _, _⟩
      · have hN0 : N = 0 := by omega
        injection h0 with e1 e2 e3
        subst e1 e2 e3
        subst hN0
        go_wp2_with fail
        go_ret2
        refine ⟨⟨none, 0, 0, 0, 0, []⟩, rfl, ⟨rfl, Nat.le_refl _, fun _ => ⟨rfl, rfl⟩, fun h => absurd h (Nat.lt_irrefl _), fun h => absurd h (Nat.lt_irrefl _), fun _ h => absurd h (Nat.not_lt_zero _)⟩, ?_, HBL.out⟩
        rw [← HEX.out, List.take_zero]
      · injection h0 with e1 e2 e3
        subst e1 e3
        have hLn : (N : Int) ≤ (c : Int) := by omega
        have hNL : N ≤ L := by omega
        unfold maxLen at hcm
        go_wp2_with fail
        go_ret2
        refine ⟨⟨some ⟨g, 0, none⟩, N, c, g, 0, expandL (keyL k.b) q.b N⟩, rfl, ⟨expandL_length _ _ _, by show N ≤ c; omega, (fun h => by cases h), fun _ => rfl, (fun _ => (HOUT.out.lt g rfl).2), fun j hj => ?_⟩, rfl, HBL.out⟩
        show wr.cell? ⟨g, 0 + j, none⟩ = some (.int .u8 (v8 (gb (expandL (keyL k.b) q.b N) j)))
        have hj' : j < N := hj
        have := HOUT.out.cells (g := g) rfl j _ (vb_get _ j (by rw [hjl]; omega))
        rw [add_off] at this
        rw [Nat.zero_add, this, ← HEX.out]
        unfold gb
        rw [List.getElem?_take_of_lt hj']
end Go.Proofs.YtjccjlhnjihfjaaDoor

/-! What the document's Label answers. -/
namespace Go.Proofs.YtjccjlhnjihfjaaDoor
open Go Go.RowKit

theorem hkOwn_row (w : World) (base : Nat) (b : List By) (n : Nat) (hn : b.length = n) (hm : n ≤ 4194304) (hb : base ≤ w.heap.size) : (w.alloc (.cells (bs b) 5)).ownsRow base 5 1 (.slice (some ⟨w.heap.size, 0, none⟩) n n) n (vb b) := by
  subst hn
  refine ⟨by rw [vb_length, Nat.mul_one], .inr ⟨w.heap.size, b.length, bs b, rfl, hb, heap_alloc_new w _, Nat.le_refl _, by unfold maxLen; omega, by rw [bs_size, Nat.mul_one], ?_⟩⟩
  show (vb b).take (b.length * 1) = vb b
  rw [List.take_of_length_le (by rw [vb_length]; omega)]

set_option maxRecDepth 20000 in
set_option maxHeartbeats 2000000 in
theorem refLabel_any (k c : SL) (s : ByteArray) (N : Nat) (w : World) (hk : k.Ok w) (hc : c.Ok w) (h1 : s.size ≤ 249) (h2 : c.len ≤ 255) (h3 : N ≤ 8160) (R : Ending → World → Prop)
    (hR : ∀ (q : SL) (w1 : World), q.Ok w1 → k.Ok w1 → q.b = infoL (bOf s) c.b N → Below w.heap.size w w1 → Calls Tryd.prog 106 #[.slice k.a k.len k.cap, .slice q.a q.len q.cap, .int .i64 (N : Int)] w1 fun e w' => ∃ a n d E, e = .returned (.tuple #[.slice a n d, .int .i64 E]) ∧ R e w') :
    Calls Tryd.prog 73 #[.slice k.a k.len k.cap, .string s, .slice c.a c.len c.cap, .int .i64 (N : Int)] w R := by
  obtain ⟨i0, hi, hz0, hz1, hz2⟩ := info_parts (P := Tryd.prog) (e := 5) (z := .int .u8 0) (size := 1) (bytes := 1) (by kernel_rfl)
  have HK := veil hk
  have HC := veil hc
  have hcb := hc.hb
  have HR := veil hR
  clear hk hc hR
  have g1 : ¬ (249 : Int) < (s.size : Int) := by omega
  have g2 : ¬ (255 : Int) < (c.len : Int) := by omega
  have g3 : ¬ (N : Int) < 0 := by omega
  have g4 : ¬ (8160 : Int) < (N : Int) := by omega
  have hsz : (tls ++ s).size = s.size + 6 := by
    rw [ByteArray.size_append]
    show 6 + s.size = _
    omega
  have hrw := head_row N s.size h3 h1
  obtain ⟨W1, hW1⟩ : ∃ W1, W1 = w.alloc (.cells (bs [BitVec.ofNat 8 (N / 256), BitVec.ofNat 8 N, BitVec.ofNat 8 (s.size + 6)]) 5) := ⟨_, rfl⟩
  have hcv := Lib.run_convert_string_bytes (P := Tryd.prog) W1 9 28 5 (tls ++ s) Tryd.underlying9 Tryd.underlying28 Tryd.underlying5
  have HO1 : Hid (W1.ownsRow w.heap.size 5 1 (.slice (some ⟨w.heap.size, 0, none⟩) 3 3) 3 (vb [BitVec.ofNat 8 (N / 256), BitVec.ofNat 8 N, BitVec.ofNat 8 (s.size + 6)])) := show W1.ownsRow _ _ _ _ _ _ by rw [hW1]; exact hkOwn_row w w.heap.size _ 3 rfl (by decide) (Nat.le_refl _)
  have b1 : Below w.heap.size w W1 := by rw [hW1]; exact (Below.refl _ w).alloc (Nat.le_refl _) _
  have hs1 : W1.heap.size = w.heap.size + 1 := by rw [hW1]; simp
  obtain ⟨W2, hW2⟩ : ∃ W2, W2 = Lib.bytesWorld W1 5 (tls ++ s) := ⟨_, rfl⟩
  have c2 : ∀ j : Nat, j < (tls ++ s).size → W2.cell? ⟨W1.heap.size, 0 + j, none⟩ = some (.int .u8 (v8 (gb (bOf (tls ++ s)) j))) := fun j hj => by
    rw [hW2, Nat.zero_add, Lib.bytesWorld_cell W1 5 (tls ++ s) j hj, bOf_get (tls ++ s) j hj]
  have b2 : Below W1.heap.size W1 W2 := by
    rw [hW2]
    exact ⟨rfl, rfl, rfl, by rw [Lib.bytesWorld_size]; omega, fun j hj => Lib.bytesWorld_at_old W1 5 (tls ++ s) j hj⟩
  have hs2 : W2.heap.size = W1.heap.size + 1 := by rw [hW2, Lib.bytesWorld_size]
  have hcap : (tls ++ s).size ≤ grownCap W1 (tls ++ s).size 0 5 := grownCap_ge ..
  rw [← hW2] at hcv
  clear hW2
  generalize grownCap W1 (tls ++ s).size 0 5 = C at *
  have qB : (⟨some ⟨W1.heap.size, 0, none⟩, (tls ++ s).size, C, W1.heap.size, 0, bOf (tls ++ s)⟩ : SL).Ok W2 := ⟨bOf_length _, hcap, (fun h => by cases h), fun _ => rfl, (fun _ => by show W1.heap.size < W2.heap.size; omega), c2⟩
  have HO2 := veil (own_below HO1.out b2)
  have HBW := veil (b1.trans (b2.mono (by omega)))
  rw [hW1] at hcv
  have hcv' : (convert 9 28 (.string ({ data := #[116, 108, 115, 49, 51, 32] } ++ s))).run Tryd.prog (w.alloc (.cells (bs [BitVec.ofNat 8 (N / 256), BitVec.ofNat 8 N, BitVec.ofNat 8 (s.size + 6)]) 5)) = _ := hcv
  have hW1s : (w.alloc (.cells (bs [BitVec.ofNat 8 (N / 256), BitVec.ofNat 8 N, BitVec.ofNat 8 (s.size + 6)]) 5)).heap.size = w.heap.size + 1 := by simp
  rw [hW1s, hsz] at hcv'
  rw [hsz, hs1] at qB
  have HQB := veil qB
  have hone : vb [BitVec.ofNat 8 c.len] = [.int .u8 (c.len : Int)] := by
    have e : v8 (BitVec.ofNat 8 c.len) = (c.len : Int) := by unfold v8; rw [BitVec.toNat_ofNat]; omega
    unfold vb
    rw [List.map_cons, e]
    rfl
  have HONE := veil hone
  clear hcv qB b1 b2 c2 hcap hW1 hone HO1
  have hsW := HBW.out.size
  have hbC : IntKind.u8.wrap (c.len : Int) = (c.len : Int) := by rw [IntKind.wrap_u8]; omega
  go_enter Tryd.func73, Tryd.ntmps73
  go_wp2_with (first
    | (with_reducible (show wpList _ _ _ (⟨some 41, Op.call _, _, _, _, _⟩ :: _) _ _)
       refine append_sl rfl _ _ 28 rfl w.heap.size i0 Tryd.underlying28 hi hz0 hz1 hz2 _ 3 _ rfl HO2.out ⟨some ⟨w.heap.size + 1, 0, none⟩, s.size + 6, C, w.heap.size + 1, 0, bOf (tls ++ s)⟩ HQB.out rfl (by show 3 + (s.size + 6) ≤ 8388608; omega) hsW ?_
       intro v4 w4 hown4 hgrow4
       have hb4 := HBW.out.grown hgrow4 hsW (fun z e => (HO2.out.lt z e).1)
       have hs4 := hb4.size)
    | (with_reducible (show wpList _ _ _ (⟨some 47, Op.call _, _, _, _, _⟩ :: _) _ _)
       refine wpList_append_own _ rfl _ _ 28 rfl w.heap.size 5 i0 (.int .u8 0) 1 1 Tryd.underlying28 hi hz0 hz1 hz2 rfl (by decide) _ (3 + (s.size + 6)) _ rfl (hown4.alloc _) ⟨w4.heap.size, 0, none⟩ 1 1 [.int .u8 (c.len : Int)] rfl rfl (cell_one_new _ _ _) (by simp [Value.oneCell']) (by unfold maxLen; omega) (by omega) (by simp; omega) ?_
       intro v5 w5 hown5 hgrow5 _
       have hb5 := (hb4.alloc hb4.size (.cells #[.int .u8 (c.len : Int)] 5)).grown hgrow5 (by have := hb4.size; simp; omega) (fun z e => ((hown4.alloc (.cells #[] 5)).lt z e).1)
       have hs5 := hb5.size
       have hown5' : w5.ownsRow w.heap.size 5 1 v5 (3 + (s.size + 6) + 1) (vb (([BitVec.ofNat 8 (N / 256), BitVec.ofNat 8 N, BitVec.ofNat 8 (s.size + 6)] ++ bOf (tls ++ s)) ++ [BitVec.ofNat 8 c.len])) := (by rw [vb_append, HONE.out]; exact hown5))
    | (with_reducible (show wpList _ _ _ (⟨some 50, Op.call _, _, _, _, _⟩ :: _) _ _)
       refine append_sl rfl _ _ 28 rfl w.heap.size i0 Tryd.underlying28 hi hz0 hz1 hz2 _ (3 + (s.size + 6) + 1) _ rfl hown5' c (HC.out.below hb5) rfl (by omega) (by omega) ?_
       intro v6 w6 hown6 hgrow6
       have hb6 := hb5.grown hgrow6 hb5.size (fun z e => (hown5'.lt z e).1)))
  obtain ⟨s6, rfl, hsl6, hsb6, hok6, _⟩ := SL.of_own hown6
  have hinfo : s6.b = infoL (bOf s) c.b N := by
    rw [hsb6, bOf_tls]
    unfold infoL
    rw [bOf_length, hcb]
    simp only [List.append_assoc]
  unfold SL.v
  refine (HR.out s6 w6 hok6 (HK.out.below hb6) hinfo hb6).mono ?_
  rintro e7 w7 ⟨a7, n7, d7, E7, rfl, hR7⟩
  have HR7 := veil hR7
  clear hR7 hown6 hgrow6 hown5 hown5' hgrow5 hown4 hgrow4
  go_wp2_with fail
  exact HR7.out
end Go.Proofs.YtjccjlhnjihfjaaDoor

/-! What the document's Mac answers. -/
namespace Go.Proofs.YtjccjlhnjihfjaaDoor
open Go Go.RowKit

set_option maxRecDepth 20000 in
set_option maxHeartbeats 1000000 in
theorem refMacF_any (k b : SL) (w : World) (hk : k.Ok w) (hb : b.Ok w) :
    Calls Tryd.prog 74 #[.slice k.a k.len k.cap, .slice b.a b.len b.cap] w fun e w' => e = .returned (.tuple #[.agg (bs (macA k.b b.b)), .int .i64 (macE k.b b.b)]) ∧ Below w.heap.size w w' := by
  have HK := veil hk
  have HB := veil hb
  have hkl := hk.hb
  have hbl := hb.hb
  clear hk hb
  have b0 : Below w.heap.size w (w.alloc (.cells (bs z32) 23)) := (Below.refl _ w).alloc (Nat.le_refl _) _
  have q0 : Row (w.alloc (.cells (bs z32) 23)) w.heap.size 23 (bs z32) := Row.new _ _ _
  have hlim : ¬ macFits k.b b.b → macA k.b b.b = z32 ∧ macE k.b b.b = 3 := fun h => ⟨by unfold macA; rw [if_neg h], by unfold macE; rw [if_neg h]⟩
  have HLim := veil hlim
  clear hlim
  go_enter Tryd.func74, Tryd.ntmps74
  by_cases h1 : (1048576 : Int) < (k.len : Int)
  · obtain ⟨e1, e2⟩ := HLim.out (fun h => by have := h.1; omega)
    rw [e1, e2]
    clear e1 e2
    go_wp2_with (first
      | (with_reducible (show wpList _ _ _ (⟨_, Op.alloc 23, _, _, _, _⟩ :: _) _ _)
         refine alloc_row rfl 23 rfl (bs z32) (by kernel_rfl) ?_)
      | (with_reducible (show wpList _ _ _ (⟨_, Op.build 23 _, _, _, _, _⟩ :: _) _ _)
         refine build_row rfl 23 _ rfl (bs z32) (by kernel_rfl) ?_)
      | (with_reducible (show wpList _ _ _ (⟨_, Op.store 23 _ _, _, _, _, _⟩ :: _) _ _)
         refine store_new (w := w) rfl 23 _ _ rfl w.heap.size (bs z32) rfl rfl _ _ rfl 32 (by kernel_rfl) (by rfl) (by rfl) (bs_one _) ?_))
    exact bodyPost_ret (result_row_tmp rfl _ _ w.heap.size _ _ q0 32 5 (.int .i64 3) rfl rfl Tryd.underlying23 (by kernel_rfl) rfl) rfl ⟨rfl, b0⟩
  · by_cases h2 : (1048512 : Int) < (b.len : Int)
    · obtain ⟨e1, e2⟩ := HLim.out (fun h => by have := h.2; omega)
      rw [e1, e2]
      clear e1 e2
      go_wp2_with (first
        | (with_reducible (show wpList _ _ _ (⟨_, Op.alloc 23, _, _, _, _⟩ :: _) _ _)
           refine alloc_row rfl 23 rfl (bs z32) (by kernel_rfl) ?_)
        | (with_reducible (show wpList _ _ _ (⟨_, Op.build 23 _, _, _, _, _⟩ :: _) _ _)
           refine build_row rfl 23 _ rfl (bs z32) (by kernel_rfl) ?_)
        | (with_reducible (show wpList _ _ _ (⟨_, Op.store 23 _ _, _, _, _, _⟩ :: _) _ _)
           refine store_new (w := w) rfl 23 _ _ rfl w.heap.size (bs z32) rfl rfl _ _ rfl 32 (by kernel_rfl) (by rfl) (by rfl) (bs_one _) ?_))
      exact bodyPost_ret (result_row_tmp rfl _ _ w.heap.size _ _ q0 32 5 (.int .i64 3) rfl rfl Tryd.underlying23 (by kernel_rfl) rfl) rfl ⟨rfl, b0⟩
    · have hfit : macFits k.b b.b := ⟨by omega, by omega⟩
      have e1 : macA k.b b.b = macK (keyL k.b) b.b := by unfold macA; rw [if_pos hfit]
      have e2 : macE k.b b.b = 0 := by unfold macE; rw [if_pos hfit]
      rw [e1, e2]
      clear e1 e2 hfit HLim
      go_wp2_with (with_reducible (show wpList _ _ _ (⟨_, Op.alloc 23, _, _, _, _⟩ :: _) _ _)
                   refine alloc_row rfl 23 rfl (bs z32) (by kernel_rfl) ?_)
      refine (refMac_any k b _ (HK.out.below b0) (HB.out.below b0) (by omega) (by omega)).mono ?_
      rintro e1 w1 ⟨rfl, hb1⟩
      have q1 := q0.below hb1 q0.lt
      have b1 := b0.trans (hb1.mono b0.size)
      clear hb1 q0 b0
      have hsz : (bs (macK (keyL k.b) b.b)).size = 32 := by rw [bs_size, macK_length]
      go_wp2_with (with_reducible (show wpList _ _ _ (⟨_, Op.store 23 _ _, _, _, _, _⟩ :: _) _ _)
                   refine store_row rfl 23 _ _ rfl w.heap.size (bs (macK (keyL k.b) b.b)) rfl rfl _ _ q1 32 (by kernel_rfl) (by rfl) hsz (bs_one _) ?_)
      refine bodyPost_ret (result_row_tmp rfl _ _ w.heap.size _ _ (q1.put _) 32 5 (.int .i64 0) rfl rfl Tryd.underlying23 (by kernel_rfl) hsz) rfl ⟨rfl, bSetRow b1 (Nat.le_refl _) _⟩
end Go.Proofs.YtjccjlhnjihfjaaDoor

/-! What the document's Sum, Mac and Label answer, in words of slices. -/
namespace Go.Proofs.YtjccjlhnjihfjaaDoor
open Go Go.RowKit

theorem refLab_any (k : SL) (s : ByteArray) (n : Nat) (w : World) (hk : k.Ok w) (h1 : s.size ≤ 249) (h3 : n ≤ 8160) (h4 : k.len ≤ 1048576) :
    Calls Tryd.prog 73 #[.slice k.a k.len k.cap, .string s, .slice none 0 0, .int .i64 (n : Int)] w fun e w' => ∃ q : SL, e = .returned (.tuple #[.slice q.a q.len q.cap, .int .i64 0]) ∧ q.Ok w' ∧ q.b = lab k.b s n ∧ Below w.heap.size w w' := by
  refine refLabel_any k nilK s n w hk (nilK_ok w) h1 (by decide) h3 _ fun q w1 hq hk1 hqb hb1 => ?_
  have hql : q.len ≤ 1048479 := by rw [← hq.hb, hqb, infoL_length, bOf_length]; show s.size + 0 + 10 ≤ _; omega
  refine (refExpand_ok k q n w1 hk1 hq h3 h4 hql).mono fun e w' ⟨z, a1, a2, a3, a4⟩ => ?_
  rw [hqb] at a3
  exact ⟨_, _, _, _, a1, z, a1, a2, a3, hb1.trans (a4.mono hb1.size)⟩

theorem refMac_sl (k b : SL) (w : World) (hk : k.Ok w) (hb : b.Ok w) (h1 : k.len ≤ 1048576) (h2 : b.len ≤ 1048512) :
    Calls Tryd.prog 74 #[.slice k.a k.len k.cap, .slice b.a b.len b.cap] w fun e w' => e = .returned (.tuple #[.agg (bs (macK (keyL k.b) b.b)), .int .i64 0]) ∧ Below w.heap.size w w' := by
  have h := refMacF_any k b w hk hb
  obtain ⟨e1, e2⟩ := macA_fits (k := k.b) (b := b.b) (by rw [hk.hb]; exact h1) (by rw [hb.hb]; exact h2)
  rw [e1, e2] at h
  exact h
end Go.Proofs.YtjccjlhnjihfjaaDoor

/-! What the statements' helpers TwinBytes and LeftBytes do to memory, for 140737488351232 bytes at most. -/
namespace Go.Proofs.YtjccjlhnjihfjaaDoor
open Go.RowKit

/-- Where bytes lie that are read: they are none, or a row of cells. -/
def Lies (w : World) (a : Option Addr) (zs : List Int) : Prop :=
  zs = [] ∨ ∃ b off, a = some ⟨b, off, none⟩ ∧ b < w.heap.size ∧ ∀ j : Nat, j < zs.length → w.cell? ⟨b, off + j, none⟩ = some (.int .u8 (zs[j]?.getD 0))

theorem Tryd.infoByte : (Tryd.prog.info? 5).map (fun i => (i.zero, i.size, i.bytes)) = some (some (.int .u8 0), 1, 1) := by kernel_rfl

/-- What is copied: a row of its own, with a mark behind. -/
def twin (zs : List Int) : List Value := (zs ++ [77]).map (Value.int .u8)

theorem twin_take {zs : List Int} {k : Nat} (h : k < zs.length) : (zs.take k).map (Value.int .u8) ++ [.int .u8 (zs[k]?.getD 0)] = (zs.take (k + 1)).map (Value.int .u8) := by
  rw [List.take_succ_eq_append_getElem h, List.map_append]
  congr 1
  simp [h]

set_option maxHeartbeats 1000000 in
theorem twin_any (a : Option Addr) (len cap : Nat) (zs : List Int) (w : World) (hz : zs.length = len) (hl : len ≤ 140737488351232) (hL : Lies w a zs) :
    Calls Tryd.prog 15 #[.slice a len cap] w fun e w' => ∃ g, e = .returned (.slice (some ⟨g, 0, none⟩) len (len + 1)) ∧
      w'.ownsRow w.heap.size 5 1 (.slice (some ⟨g, 0, none⟩) (len + 1) (len + 1)) (len + 1) (twin zs) ∧ Below w.heap.size w w' := by
  obtain ⟨i0, hi, hz0, hz1, hz2⟩ := info_parts Tryd.infoByte
  have HL : Hid (Lies w a zs) := hL
  have HZ : Hid (zs.length = len) := hz
  have hb1 : i0.bytes * (len + 1) ≤ 281474976710656 := by rw [hz2]; omega
  have hb2 : len + 1 ≤ maxLen := by unfold maxLen; omega
  clear hL hz
  go_enter Tryd.func15, Tryd.ntmps15
  go_wp2_with (at_make; refine wpList_make_own _ rfl _ _ 28 rfl w.heap.size 5 i0 (.int .u8 0) 1 Tryd.underlying28 hi hz0 hz1 .i64 .i64 _ (len + 1) rfl rfl (by omega) hb1 hb2 (Nat.le_refl _) ?_; intro w1 hown1 hgrow1)
  clear hb1 hb2
  have hbel1 : Below w.heap.size w w1 := (Below.refl _ _).grown hgrow1 (Nat.le_refl _) (fun k e => by cases e)
  clear hgrow1
  go_loopw [3, 4] (fun t i wr => ∃ k : Nat, k ≤ len ∧ i = .int .i64 k ∧ t = .slice (some ⟨w.heap.size, 0, none⟩) k (len + 1) ∧
      wr.ownsRow w.heap.size 5 1 (.slice (some ⟨w.heap.size, 0, none⟩) k (len + 1)) k ((zs.take k).map (Value.int .u8)) ∧ Below w.heap.size w wr)
    (fun _ i _ => len - (intOf i).toNat)
  case atStart => exact ⟨0, Nat.zero_le _, rfl, rfl, by simpa using hown1, hbel1⟩
  case round =>
    obtain ⟨k, hk, rfl, rfl, hown, hbel⟩ := hrel
    clear hown1 hbel1
    by_cases hlt : k < len
    · rcases HL.out with h0 | ⟨b, off, ha, hb, hcell⟩
      · have := HZ.out; rw [h0] at this; simp at this; omega
      · subst ha
        have hcx : wr.cell? ⟨b, off + k, none⟩ = some (.int .u8 (zs[k]?.getD 0)) := (hbel.cell (by exact hb)).trans (hcell k (by rw [HZ.out]; exact hlt))
        clear hcell
        go_wp2_with (at_builtin; refine wpList_append_fits _ rfl _ _ 28 rfl w.heap.size 5 i0 1 Tryd.underlying28 hi hz1 w.heap.size k (len + 1) _ rfl (hown.alloc _) ⟨wr.heap.size, 0, none⟩ 1 1 [.int .u8 (zs[k]?.getD 0)] rfl rfl (cell_one_new _ _ _) (by simp [Value.oneCell']) (by omega) ?_; intro w2 hown2 hgrow2)
        have hbel2 : Below w.heap.size w w2 := (hbel.alloc hbel.size _).grown hgrow2 (by have := hbel.size; simp; omega) (fun k e => by cases e; exact Nat.le_refl _)
        rw [twin_take (by rw [HZ.out]; exact hlt)] at hown2
        clear hgrow2 hown
        go_wp2
        go_roundw
        case rel => exact ⟨k + 1, by omega, by go_num, rfl, hown2, hbel2⟩
        case measure => simp [intOf]; omega
    · have hkl : k = len := by omega
      subst hkl
      have hown3 : wr.ownsRow w.heap.size 5 1 (.slice (some ⟨w.heap.size, 0, none⟩) k (k + 1)) k (zs.map (Value.int .u8)) := by
        have := hown; rw [List.take_of_length_le (by rw [HZ.out]; exact Nat.le_refl _)] at this; exact this
      clear hown
      go_wp2_with (at_builtin; refine wpList_append_fits _ rfl _ _ 28 rfl w.heap.size 5 i0 1 Tryd.underlying28 hi hz1 w.heap.size k (k + 1) _ rfl (hown3.alloc _) ⟨wr.heap.size, 0, none⟩ 1 1 [.int .u8 77] rfl rfl (cell_one_new _ _ _) (by simp [Value.oneCell']) (by omega) ?_; intro w2 hown2 hgrow2)
      have hbel2 : Below w.heap.size w w2 := (hbel.alloc hbel.size _).grown hgrow2 (by have := hbel.size; simp; omega) (fun k e => by cases e; exact Nat.le_refl _)
      clear hgrow2 hown3
      go_wp2
      go_ret
      exact ⟨_, rfl, by simpa [twin] using hown2, hbel2⟩

/-- The cells of a copy that is kept. -/
theorem twin_cells {w : World} {base g len : Nat} {zs : List Int} (hz : zs.length = len) (h : w.ownsRow base 5 1 (.slice (some ⟨g, 0, none⟩) (len + 1) (len + 1)) (len + 1) (twin zs)) :
    g < w.heap.size ∧ base ≤ g ∧ (∀ j : Nat, j < len → w.cell? ⟨g, j, none⟩ = some (.int .u8 (zs[j]?.getD 0))) ∧ w.cell? ⟨g, len, none⟩ = some (.int .u8 77) := by
  obtain ⟨h1, h2⟩ := h.lt g rfl
  refine ⟨h2, h1, fun j hj => ?_, ?_⟩
  · rw [h.cellAt j (by omega)]
    unfold twin
    rw [List.getElem?_map, List.getElem?_append_left (by omega)]
    simp [show j < zs.length by omega]
  · rw [h.cellAt len (by omega)]
    unfold twin
    rw [List.getElem?_map, List.getElem?_append_right (by omega)]
    simp [hz]

set_option maxHeartbeats 1000000 in
theorem left_any (g : Nat) (a : Option Addr) (len cap : Nat) (zs : List Int) (w : World) (hz : zs.length = len) (hl : len ≤ 140737488351232) (hL : Lies w a zs) (hg : g < w.heap.size)
    (hT : ∀ j : Nat, j < len → w.cell? ⟨g, j, none⟩ = some (.int .u8 (zs[j]?.getD 0))) (h77 : w.cell? ⟨g, len, none⟩ = some (.int .u8 77)) :
    Calls Tryd.prog 18 #[.slice (some ⟨g, 0, none⟩) len (len + 1), .slice a len cap] w fun e w' => e = .returned (.bool true) ∧ Below w.heap.size w w' := by
  have HL : Hid (Lies w a zs) := hL
  have HZ : Hid (zs.length = len) := hz
  have HT := fun j hj => hT j hj
  have H77 : Hid (w.cell? ⟨g, len, none⟩ = some (.int .u8 77)) := h77
  have h1 : ((len : Int) != (len : Int)) = false := by simp
  have h2 : ¬ ((len : Int) + 1 ≤ (len : Int)) := by omega
  clear hL hz hT h77
  go_enter Tryd.func18, Tryd.ntmps18
  go_wp2
  go_loopw [5] (fun i wr => ∃ k : Nat, k ≤ len ∧ i = .int .i64 k ∧ Below w.heap.size w wr)
    (fun i _ => len - (intOf i).toNat)
  case atStart => exact ⟨0, Nat.zero_le _, rfl, Below.refl _ _⟩
  case round =>
    obtain ⟨k, hk, rfl, hbel⟩ := hrel
    by_cases hlt : k < len
    · rcases HL.out with h0 | ⟨b, off, ha, hb, hcell⟩
      · have := HZ.out; rw [h0] at this; simp at this; omega
      · subst ha
        have hcx : wr.cell? ⟨b, off + k, none⟩ = some (.int .u8 (zs[k]?.getD 0)) := (hbel.cell (by exact hb)).trans (hcell k (by rw [HZ.out]; exact hlt))
        have hcy : wr.cell? ⟨g, k, none⟩ = some (.int .u8 (zs[k]?.getD 0)) := (hbel.cell (by exact hg)).trans (HT k hlt)
        clear hcell HT
        go_wp2
        go_region
        all_goals go_wp2
        all_goals
          go_roundw
          case rel => exact ⟨k + 1, by omega, by go_num, hbel.drew⟩
          case measure => simp [intOf]; omega
    · have hkl : k = len := by omega
      subst hkl
      have hc7 : wr.cell? ⟨g, k, none⟩ = some (.int .u8 77) := (hbel.cell (by exact hg)).trans H77.out
      go_wp2
      go_ret
      exact ⟨rfl, hbel⟩
/-- The cells of bytes, as numbers. -/
def nums (b : List By) : List Int := b.map v8
theorem nums_length (b : List By) : (nums b).length = b.length := by simp [nums]
theorem nums_get (b : List By) (j : Nat) (h : j < b.length) : (nums b)[j]?.getD 0 = v8 (gb b j) := by
  unfold nums gb
  rw [List.getElem?_map, List.getElem?_eq_getElem h]
  rfl
theorem lies_of {w : World} {a : Option Addr} {g off len : Nat} {b : List By} (hb : b.length = len) (ha : 0 < len → a = some ⟨g, off, none⟩) (hgl : 0 < len → g < w.heap.size) (hc : ∀ j : Nat, j < len → w.cell? ⟨g, off + j, none⟩ = some (.int .u8 (v8 (gb b j)))) : Lies w a (nums b) := by
  by_cases h : 0 < len
  · refine .inr ⟨g, off, ha h, hgl h, fun j hj => ?_⟩
    rw [nums_length, hb] at hj
    rw [hc j hj, nums_get b j (by omega)]
  · left
    obtain rfl : b = [] := List.eq_nil_of_length_eq_zero (by omega)
    rfl
end Go.Proofs.YtjccjlhnjihfjaaDoor

/-! A row of one's own whose block may be longer than the slice's capacity, and of whatever kind (an array's). No function of the program in sight. -/
namespace Go.Proofs.YtjccjlhnjihfjaaDoor
open Go Go.RowKit

def RowW (w : World) (base : Nat) (_e : TypeId) (size : Nat) (v : Value) (n : Nat) (xs : List Value) : Prop :=
  xs.length = n * size ∧
  ((v = .slice none 0 0 ∧ n = 0) ∨
   ∃ g cap cur, v = .slice (some ⟨g, 0, none⟩) n cap ∧ base ≤ g ∧ (∃ t, w.heap[g]? = some (.cells cur t (0, 0))) ∧ n ≤ cap ∧ cap ≤ maxLen ∧ cap * size ≤ cur.size ∧ cur.toList.take (n * size) = xs)
section
variable {w w' : World} {base : Nat} {e : TypeId} {size : Nat} {v : Value} {n : Nat} {xs : List Value}
theorem RowW.of_own (h : w.ownsRow base e size v n xs) : RowW w base e size v n xs := by
  refine ⟨h.1, ?_⟩
  rcases h.2 with h2 | ⟨g, cap, cur, h1, h2, h3, h4, h5, h6, h7⟩
  · exact .inl h2
  · exact .inr ⟨g, cap, cur, h1, h2, ⟨_, h3⟩, h4, h5, by rw [h6]; exact Nat.le_refl _, h7⟩
theorem RowW.lt (h : RowW w base e size v n xs) : ∀ k, v.ownBlock = some k → base ≤ k ∧ k < w.heap.size := by
  intro k hk
  rcases h.2 with ⟨rfl, _⟩ | ⟨g, cap, cur, rfl, hb, ⟨t, hg⟩, _⟩
  · simp [Value.ownBlock] at hk
  · simp [Value.ownBlock] at hk
    subst hk
    exact ⟨hb, (Array.getElem?_eq_some_iff.1 hg).1⟩
theorem RowW.kept {row : Option Nat} (h : RowW w base e size v n xs) (hg : w.grownBy w' row) (hne : v.ownBlock = none ∨ v.ownBlock ≠ row) : RowW w' base e size v n xs := by
  refine ⟨h.1, ?_⟩
  rcases h.2 with hn | ⟨g, cap, cur, rfl, hb, ⟨t, hgg⟩, rest⟩
  · exact .inl hn
  · refine .inr ⟨g, cap, cur, rfl, hb, ⟨t, ?_⟩, rest⟩
    rw [hg.block g (Array.getElem?_eq_some_iff.1 hgg).1 (by simpa [Value.ownBlock] using hne)]
    exact hgg
theorem RowW.alloc (h : RowW w base e size v n xs) (o : Obj) : RowW (w.alloc o) base e size v n xs :=
  h.kept (World.grownBy_alloc w o none) (by cases hv : v.ownBlock <;> simp)
theorem RowW.drew (h : RowW w base e size v n xs) : RowW w.drew base e size v n xs := h
theorem RowW.low {B' : Nat} (h : RowW w base e size v n xs) (hB : B' ≤ base) : RowW w B' e size v n xs := by
  refine ⟨h.1, ?_⟩
  rcases h.2 with hn | ⟨g, cap, cur, h1, hb, rest⟩
  · exact .inl hn
  · exact .inr ⟨g, cap, cur, h1, by omega, rest⟩
theorem RowW.below (h : RowW w base e size v n xs) (hb : Below w.heap.size w w') : RowW w' base e size v n xs :=
  h.kept (row := none) ⟨hb.os, hb.tape, hb.output, hb.size, fun k hk _ => hb.block k hk⟩ (by cases hv : v.ownBlock <;> simp)
theorem RowW.cells (h : RowW w base e size v n xs) {g : Nat} (hg : v.ownBlock = some g) : ∀ j u, xs[j]? = some u → w.cell? ((⟨g, 0, none⟩ : Addr).add j) = some u := by
  intro j u hu
  rcases h.2 with ⟨rfl, _⟩ | ⟨g', cap, cur, rfl, _, ⟨t, hgg⟩, _, _, _, htake⟩
  · simp [Value.ownBlock] at hg
  · simp [Value.ownBlock] at hg
    subst hg
    have hadd : (⟨g', 0, none⟩ : Addr).add j = ⟨g', j, none⟩ := by unfold Addr.add; split <;> simp_all
    rw [hadd, cell_of_row w g' j cur t (0, 0) hgg]
    rw [← htake, List.getElem?_take] at hu
    split at hu
    · simpa using hu
    · cases hu
theorem RowW.cellAt {g cap : Nat} (h : RowW w base e size (.slice (some ⟨g, 0, none⟩) n cap) n xs) (j : Nat) (hj : j < n * size) : w.cell? ⟨g, j, none⟩ = xs[j]? := by
  rcases h.2 with ⟨h', _⟩ | ⟨g', cap', cur, h', _, ⟨t, hg⟩, _, _, _, htake⟩
  · simp at h'
  · simp only [Value.slice.injEq, Option.some.injEq, Addr.mk.injEq, and_true, true_and] at h'
    obtain ⟨rfl, rfl⟩ := h'
    rw [cell_of_row w g j cur t (0, 0) hg, ← htake, List.getElem?_take, if_pos hj]
    simp
theorem RowW.frozenAt {g cap : Nat} (h : RowW w base e size (.slice (some ⟨g, 0, none⟩) n cap) n xs) (j : Nat) : w.frozen? ⟨g, j, none⟩ = false := by
  rcases h.2 with ⟨h', _⟩ | ⟨g', cap', cur, h', _, ⟨t, hg⟩, _⟩
  · simp at h'
  · simp only [Value.slice.injEq, Option.some.injEq, Addr.mk.injEq, and_true, true_and] at h'
    obtain ⟨rfl, rfl⟩ := h'
    exact frozen_of_row w g j cur t hg
theorem RowW.stored {g cap : Nat} (h : RowW w base e size (.slice (some ⟨g, 0, none⟩) n cap) n xs) (j : Nat) (u : Value) :
    RowW (w.setCell ⟨g, j, none⟩ u) base e size (.slice (some ⟨g, 0, none⟩) n cap) n (xs.set j u) ∧ w.grownBy (w.setCell ⟨g, j, none⟩ u) (some g) := by
  rcases h.2 with ⟨h', _⟩ | ⟨g', cap', cur, h', hb, ⟨t, hg⟩, hnc, hcm, hcs, htake⟩
  · simp at h'
  · simp only [Value.slice.injEq, Option.some.injEq, Addr.mk.injEq, and_true, true_and] at h'
    obtain ⟨rfl, rfl⟩ := h'
    refine ⟨⟨by simpa using h.1, .inr ⟨g, cap, cur.setIfInBounds j u, rfl, hb, ⟨t, heap_setCell_same w g j cur t u hg⟩, hnc, hcm, by simpa using hcs, ?_⟩⟩,
      ⟨rfl, rfl, rfl, by simp, fun k _ hk => heap_setCell_other w ⟨g, j, none⟩ k u (fun e => hk (by simp [e]))⟩⟩
    rw [Array.toList_setIfInBounds, ← htake, List.take_set]
end
theorem run_append_roomT {P : Program} (w : World) (t ty e tb : TypeId) (i : TypeInfo) (ht : P.underlying t = some (.slice e)) (hi : P.info? e = some i)
    (g n cap : Nat) (cur : Array Value) (hg : w.heap[g]? = some (.cells cur tb (0, 0)))
    (a : Addr) (m c : Nat) (news : List Value) (hl : news.length = m * i.size) (hnews : ∀ j u, news[j]? = some u → w.cell? (a.add j) = some u) (h1 : ∀ u ∈ news, u.oneCell' = true)
    (hroom : n + m ≤ cap) (hfit : n * i.size + news.length ≤ cur.size) :
    (Builtin.append_ #[t, t] ty #[.slice (some ⟨g, 0, none⟩) n cap, .slice (some a) m c]).run P w =
      .ok (.slice (some ⟨g, 0, none⟩) (n + m) cap) (w.setRow g (cur.toList.take (n * i.size) ++ news ++ cur.toList.drop (n * i.size + news.length)).toArray) := by
  have h2 := run_firstCells_some (P := P) w i.size m a m c news hl hnews
  have h3 := run_storeCells_at P g (n * i.size) tb news 0 cur w hg (by simpa using hfit) h1
  rw [Nat.add_zero] at h3
  simp [Builtin.append_, run_underlying ht, sizeOf, typeInfo, hi, Builtin.lenOf, hroom, h2, Addr.add_lit, h3]
/-- What is appended: into the old row, which stays as long as it was, or into a new one. -/
theorem run_append_two {P : Program} (w : World) (base : Nat) (t ty e : TypeId) (i : TypeInfo) (z : Value) (size bytes : Nat) (ht : P.underlying t = some (.slice e)) (hi : P.info? e = some i) (hz : i.zero = some z)
    (hsize : i.size = size) (hby : i.bytes = bytes) (hzs : z.cells.size = size) (hsz : 0 < size)
    (v : Value) (n : Nat) (xs : List Value) (hown : RowW w base e size v n xs)
    (a : Addr) (m c : Nat) (news : List Value) (hl : news.length = m * size) (hnews : ∀ j u, news[j]? = some u → w.cell? (a.add j) = some u) (h1 : ∀ u ∈ news, u.oneCell' = true) (hm : 0 < m)
    (h63 : n + m ≤ maxLen) (hbytes : (n + m) * bytes ≤ 140737488355328) (hbase : base ≤ w.heap.size) :
    ∃ g cap w', (Builtin.append_ #[t, t] ty #[v, .slice (some a) m c]).run P w = .ok (.slice (some ⟨g, 0, none⟩) (n + m) cap) w' ∧ RowW w' base e size (.slice (some ⟨g, 0, none⟩) (n + m) cap) (n + m) (xs ++ news) ∧
      ((v = .slice (some ⟨g, 0, none⟩) n cap ∧ w.grownBy w' (some g)) ∨ (g = w.heap.size ∧ w.grownBy w' none)) := by
  have hlen : (xs ++ news).length = (n + m) * size := by rw [List.length_append, hown.1, hl, Nat.add_mul]
  have fresh : ∀ v' w', (Builtin.append_ #[t, t] ty #[v, .slice (some a) m c]).run P w = .ok v' w' → w'.ownsRow w.heap.size e size v' (n + m) (xs ++ news) → w.grownBy w' none → (∀ k, v'.ownBlock = some k → k = w.heap.size) → ∃ g cap w', (Builtin.append_ #[t, t] ty #[v, .slice (some a) m c]).run P w = .ok (.slice (some ⟨g, 0, none⟩) (n + m) cap) w' ∧ RowW w' base e size (.slice (some ⟨g, 0, none⟩) (n + m) cap) (n + m) (xs ++ news) ∧
      ((v = .slice (some ⟨g, 0, none⟩) n cap ∧ w.grownBy w' (some g)) ∨ (g = w.heap.size ∧ w.grownBy w' none)) := by
    intro v' w' hr h6 h7 h8
    have hv' : ∃ g cap, v' = .slice (some ⟨g, 0, none⟩) (n + m) cap := by
      rcases h6.2 with ⟨_, h0⟩ | ⟨g, cap, cur, hv, _⟩
      · omega
      · exact ⟨g, cap, hv⟩
    obtain ⟨g, cap, rfl⟩ := hv'
    exact ⟨g, cap, w', hr, (RowW.of_own h6).low hbase, .inr ⟨h8 g rfl, h7⟩⟩
  rcases hown.2 with ⟨rfl, rfl⟩ | ⟨g0, cap0, cur, rfl, hbg, ⟨tb, hg⟩, hnc, hcm, hcs, htake⟩
  · have hx : xs = [] := List.eq_nil_of_length_eq_zero (by simpa using hown.1)
    subst hx
    obtain ⟨v', w', hr, h2, h3, _, h5⟩ := run_append_own_at (P := P) w w.heap.size t ty e i z size bytes ht hi hz hsize hby hzs hsz (.slice none 0 0) 0 [] (World.ownsRow_nil _ _ _ _) a m c news hl hnews h1 h63 hbytes (Nat.le_refl _)
    refine fresh v' w' hr h2 h3 (fun k hk => ?_)
    rcases h5 with h5 | h5
    · rw [h5] at hk; cases hk
    · rw [h5] at hk; injection hk with hk; exact hk.symm
  · by_cases hroom : n + m ≤ cap0
    · subst hsize
      have hfit : n * i.size + news.length ≤ cur.size := by
        rw [hl, ← Nat.add_mul]
        exact Nat.le_trans (Nat.mul_le_mul_right _ hroom) hcs
      have hr := run_append_roomT (P := P) w t ty e tb i ht hi g0 n cap0 cur hg a m c news hl hnews h1 hroom hfit
      refine ⟨g0, cap0, _, hr, ⟨hlen, .inr ⟨g0, cap0, _, rfl, hbg, ⟨tb, setRow_heap w g0 cur _ tb _ hg⟩, hroom, hcm, ?_, ?_⟩⟩, .inl ⟨rfl, ⟨rfl, rfl, rfl, by simp, fun k _ hk => setRow_other w g0 k _ (fun e => hk (by simp [e]))⟩⟩⟩
      · simp only [List.size_toArray, List.length_append, List.length_take, List.length_drop, Array.length_toList]
        omega
      · rw [htake, ← hlen]
        exact List.take_left
    · have holds : ∀ j u, xs[j]? = some u → w.cell? ((⟨g0, 0, none⟩ : Addr).add j) = some u := hown.cells (g := g0) rfl
      have hsz' : w.heap.size = w.heap.size := rfl
      have hr := run_append_grow (P := P) w t ty e i z ht hi hz ⟨g0, 0, none⟩ n cap0 xs (by rw [hsize]; exact hown.1) holds a m c news (by rw [hsize]; exact hl) hnews (by omega) (by simp only [maxLen] at h63; omega) (growslice_fits (by omega) (by rw [hby]; exact hbytes))
      obtain ⟨v2, w2, hr2, h6, h7⟩ := run_append_arg_grows (P := P) w t ty e i z size bytes ht hi hz hsize hby hzs hsz ⟨g0, 0, none⟩ n cap0 xs hown.1 holds a m c news hl hnews (by omega) h63 hbytes
      refine fresh v2 w2 hr2 h6 h7 (fun k hk => ?_)
      rw [hr] at hr2
      injection hr2 with e1 e2
      rw [← e1] at hk
      injection hk with hk
      exact hk.symm
end Go.Proofs.YtjccjlhnjihfjaaDoor
