/-
  ChachaUndone's walk. Written by mkund.py.
-/
import Derived.Test.YtcdmnbmniiblgaaDoorChaLaw
import Derived.Test.YtcdmnbmniiblgaaDoorChaUndP
import Derived.Test.YtcdmnbmniiblgaaDoorChaRefState
namespace Go.Proofs.YtcdmnbmniiblgaaDoor
open Go Go.RowKit

set_option maxRecDepth 20000 in
set_option maxHeartbeats 4000000 in
theorem undone_walk (key : List By) (count : Wd) (nonce : List By) (hk : key.length = 32) (hn : nonce.length = 12) (w : World) (hg : Glob w) :
    Calls Tryd.prog 6 #[.agg (fromC key count nonce)] w fun e w' => e = .returned (.bool true) ∧ Below w.heap.size w w' := by
  have HK := veil hk
  have HN := veil hn
  have HG := veil hg
  have hkz : (bs key).size = 32 := by rw [bs_size, hk]
  have hnz : (bs nonce).size = 12 := by rw [bs_size, hn]
  clear hk hn hg
  go_enter Tryd.func6, Tryd.ntmps6
  go_wp2
  go_loopw [4] (fun i wr => ∃ t : Nat, t ≤ 8 ∧ i = .int .i64 t ∧ Row wr w.heap.size 26 (fromC key count nonce) ∧ Row wr (w.heap.size + 1) 40 (ws (st0 key count nonce (4 + t))) ∧ Below w.heap.size w wr)
    (fun i _ => 8 - (intOf i).toNat)
  case atStart => exact ⟨0, by omega, rfl, (Row.new _ _ _).alloc _, by rw [Nat.add_zero, beg_row]; exact Row.new1 _ _ _ _, ((Below.refl _ w).alloc (Nat.le_refl _) _).alloc (by simp) _⟩
  case round =>
    obtain ⟨t, ht, rfl, r0, r1, hbel⟩ := hrel
    by_cases hlt : t < 8
    · have HE := (show Hid _ from st0_set key count nonce (4 + t) (by omega) _ (stateL_key key count nonce t hlt))
      obtain ⟨v, hv⟩ : ∃ v, wr.cell? ⟨w.heap.size + 1, 4 + t, none⟩ = some v := ⟨_, r1.cellW (by rw [st0_length _ _ _ _ (by omega)]; omega)⟩
      have f3 := r1.frozen (4 + t)
      have hpz : (0 : Int) ≤ 4 + (t : Int) ∧ 4 + (t : Int) < 16 := by omega
      have hwz : IntKind.i64.wrap (4 + (t : Int)) = 4 + (t : Int) := by rw [IntKind.wrap_i64]; omega
      have qz : (4 + (t : Int)).toNat = 4 + t := by omega
      have c0 : wr.cell? ⟨w.heap.size, 4 * t, none⟩ = some (.int .u8 (v8 (gb key (4 * t)))) := by
        have := (from_key r0) (4 * t) _ (show (bs key).toList[4 * t]? = some _ by simpa using bs_get key (4 * t) (by rw [HK.out]; omega))
        simpa using this
      have c1 : wr.cell? ⟨w.heap.size, 4 * t + 1, none⟩ = some (.int .u8 (v8 (gb key (4 * t + 1)))) := by
        have := (from_key r0) (4 * t + 1) _ (show (bs key).toList[4 * t + 1]? = some _ by simpa using bs_get key (4 * t + 1) (by rw [HK.out]; omega))
        simpa using this
      have c2 : wr.cell? ⟨w.heap.size, 4 * t + 2, none⟩ = some (.int .u8 (v8 (gb key (4 * t + 2)))) := by
        have := (from_key r0) (4 * t + 2) _ (show (bs key).toList[4 * t + 2]? = some _ by simpa using bs_get key (4 * t + 2) (by rw [HK.out]; omega))
        simpa using this
      have c3 : wr.cell? ⟨w.heap.size, 4 * t + 3, none⟩ = some (.int .u8 (v8 (gb key (4 * t + 3)))) := by
        have := (from_key r0) (4 * t + 3) _ (show (bs key).toList[4 * t + 3]? = some _ by simpa using bs_get key (4 * t + 3) (by rw [HK.out]; omega))
        simpa using this
      have hw0 : IntKind.i64.wrap (4 * (t : Int)) = 4 * (t : Int) := by rw [IntKind.wrap_i64]; omega
      have q0 : (4 * (t : Int)).toNat = 4 * t := by omega
      have p0 : (0 : Int) ≤ 4 * (t : Int) ∧ 4 * (t : Int) < 32 := by omega
      have hw1 : IntKind.i64.wrap (4 * (t : Int) + 1) = 4 * (t : Int) + 1 := by rw [IntKind.wrap_i64]; omega
      have q1 : (4 * (t : Int) + 1).toNat = 4 * t + 1 := by omega
      have p1 : (0 : Int) ≤ 4 * (t : Int) + 1 ∧ 4 * (t : Int) + 1 < 32 := by omega
      have hw2 : IntKind.i64.wrap (4 * (t : Int) + 2) = 4 * (t : Int) + 2 := by rw [IntKind.wrap_i64]; omega
      have q2 : (4 * (t : Int) + 2).toNat = 4 * t + 2 := by omega
      have p2 : (0 : Int) ≤ 4 * (t : Int) + 2 ∧ 4 * (t : Int) + 2 < 32 := by omega
      have hw3 : IntKind.i64.wrap (4 * (t : Int) + 3) = 4 * (t : Int) + 3 := by rw [IntKind.wrap_i64]; omega
      have q3 : (4 * (t : Int) + 3).toNat = 4 * t + 3 := by omega
      have p3 : (0 : Int) ≤ 4 * (t : Int) + 3 ∧ 4 * (t : Int) + 3 < 32 := by omega
      have HWd : Hid (wordLE key t = oo (oo (oo (ex (gb key (4 * t))) (sl (ex (gb key (4 * t + 1))) 8)) (sl (ex (gb key (4 * t + 2))) 16)) (sl (ex (gb key (4 * t + 3))) 24)) := show _ = _ by rfl
      rw [v8_ex] at c0 c1 c2 c3
      generalize gb key (4 * t) = b0 at *
      generalize gb key (4 * t + 1) = b1 at *
      generalize gb key (4 * t + 2) = b2 at *
      generalize gb key (4 * t + 3) = b3 at *
      have u0 := u_nn (ex b0)
      have l0 : u (ex b0) ≤ 255 := by rw [← v8_ex]; exact v8_le _
      have u1 := u_nn (ex b1)
      have l1 : u (ex b1) ≤ 255 := by rw [← v8_ex]; exact v8_le _
      have u2 := u_nn (ex b2)
      have l2 : u (ex b2) ≤ 255 := by rw [← v8_ex]; exact v8_le _
      have u3 := u_nn (ex b3)
      have l3 : u (ex b3) ≤ 255 := by rw [← v8_ex]; exact v8_le _
      have HV : Hid (bits .or .u32 (bits .or .u32 (bits .or .u32 (u (ex b0)) (u (ex b1) * 256)) (u (ex b2) * 65536)) (u (ex b3) * 16777216) = u (wordLE key t)) := show _ = _ by
        rw [shlS (ex b1) 8 256 (by decide) (by omega), shlS (ex b2) 16 65536 (by decide) (by omega), shlS (ex b3) 24 16777216 (by decide) (by omega), bo, bo, bo, HWd.out]
      go_wp2
      go_region
      all_goals go_wp2
      all_goals
        go_roundw
        case rel =>
          rw [HV.out]
          refine ⟨t + 1, by omega, by go_num, r0.other (by show w.heap.size ≠ w.heap.size + 1; omega) _, ?_, hbel.drew.setCell (p := ⟨w.heap.size + 1, 4 + t, none⟩) (by show w.heap.size ≤ w.heap.size + 1; omega) _⟩
          rw [← Nat.add_assoc, ← HE.out, ← ws_set]
          exact r1.set (4 + t) _
        case measure => simp [intOf]; omega
    · rw [show t = 8 by omega] at r1
      have hd2 : decide ((t : Int) < 8) = false := by simp; omega
      have HE := (show Hid _ from st0_set key count nonce 12 (by omega) _ (stateL_count key count nonce))
      obtain ⟨v, hv⟩ : ∃ v, wr.cell? ⟨w.heap.size + 1, 12, none⟩ = some v := ⟨_, r1.cellW (by rw [st0_length _ _ _ _ (by omega)]; omega)⟩
      have f3 := r1.frozen 12
      have c32 := from_count r0 HK.out
      generalize wr = W2 at *
      go_wp2
      replace r1 := r1.set 12 (.int .u32 (u count))
      rw [ws_set, HE.out] at r1
      replace r0 := r0.other (a := ⟨w.heap.size + 1, 12, none⟩) (by show w.heap.size ≠ w.heap.size + 1; omega) (.int .u32 (u count))
      replace hbel := hbel.setCell (p := ⟨w.heap.size + 1, 12, none⟩) (by show w.heap.size ≤ w.heap.size + 1; omega) (.int .u32 (u count))
      generalize W2.setCell ⟨w.heap.size + 1, 12, none⟩ (.int .u32 (u count)) = W3 at *
      clear c32 hv
      go_loopw [5] (fun i wr => ∃ t : Nat, t ≤ 3 ∧ i = .int .i64 t ∧ Row wr w.heap.size 26 (fromC key count nonce) ∧ Row wr (w.heap.size + 1) 40 (ws (st0 key count nonce (13 + t))) ∧ Below w.heap.size w wr)
        (fun i _ => 3 - (intOf i).toNat)
      case atStart => exact ⟨0, by omega, rfl, r0, r1, hbel⟩
      case round =>
        clear r0 r1 hbel
        obtain ⟨t, ht, rfl, r0, r1, hbel⟩ := hrel
        by_cases hlt : t < 3
        · have HE := (show Hid _ from st0_set key count nonce (13 + t) (by omega) _ (stateL_nonce key count nonce t hlt))
          obtain ⟨v, hv⟩ : ∃ v, wr.cell? ⟨w.heap.size + 1, 13 + t, none⟩ = some v := ⟨_, r1.cellW (by rw [st0_length _ _ _ _ (by omega)]; omega)⟩
          have f3 := r1.frozen (13 + t)
          have hpz : (0 : Int) ≤ 13 + (t : Int) ∧ 13 + (t : Int) < 16 := by omega
          have hwz : IntKind.i64.wrap (13 + (t : Int)) = 13 + (t : Int) := by rw [IntKind.wrap_i64]; omega
          have qz : (13 + (t : Int)).toNat = 13 + t := by omega
          have c0 : wr.cell? ⟨w.heap.size, 33 + (4 * t), none⟩ = some (.int .u8 (v8 (gb nonce (4 * t)))) := by
            have := (from_nonce r0 HK.out) (4 * t) _ (show (bs nonce).toList[4 * t]? = some _ by simpa using bs_get nonce (4 * t) (by rw [HN.out]; omega))
            simpa using this
          have c1 : wr.cell? ⟨w.heap.size, 33 + (4 * t + 1), none⟩ = some (.int .u8 (v8 (gb nonce (4 * t + 1)))) := by
            have := (from_nonce r0 HK.out) (4 * t + 1) _ (show (bs nonce).toList[4 * t + 1]? = some _ by simpa using bs_get nonce (4 * t + 1) (by rw [HN.out]; omega))
            simpa using this
          have c2 : wr.cell? ⟨w.heap.size, 33 + (4 * t + 2), none⟩ = some (.int .u8 (v8 (gb nonce (4 * t + 2)))) := by
            have := (from_nonce r0 HK.out) (4 * t + 2) _ (show (bs nonce).toList[4 * t + 2]? = some _ by simpa using bs_get nonce (4 * t + 2) (by rw [HN.out]; omega))
            simpa using this
          have c3 : wr.cell? ⟨w.heap.size, 33 + (4 * t + 3), none⟩ = some (.int .u8 (v8 (gb nonce (4 * t + 3)))) := by
            have := (from_nonce r0 HK.out) (4 * t + 3) _ (show (bs nonce).toList[4 * t + 3]? = some _ by simpa using bs_get nonce (4 * t + 3) (by rw [HN.out]; omega))
            simpa using this
          have hw0 : IntKind.i64.wrap (4 * (t : Int)) = 4 * (t : Int) := by rw [IntKind.wrap_i64]; omega
          have q0 : (4 * (t : Int)).toNat = 4 * t := by omega
          have p0 : (0 : Int) ≤ 4 * (t : Int) ∧ 4 * (t : Int) < 12 := by omega
          have hw1 : IntKind.i64.wrap (4 * (t : Int) + 1) = 4 * (t : Int) + 1 := by rw [IntKind.wrap_i64]; omega
          have q1 : (4 * (t : Int) + 1).toNat = 4 * t + 1 := by omega
          have p1 : (0 : Int) ≤ 4 * (t : Int) + 1 ∧ 4 * (t : Int) + 1 < 12 := by omega
          have hw2 : IntKind.i64.wrap (4 * (t : Int) + 2) = 4 * (t : Int) + 2 := by rw [IntKind.wrap_i64]; omega
          have q2 : (4 * (t : Int) + 2).toNat = 4 * t + 2 := by omega
          have p2 : (0 : Int) ≤ 4 * (t : Int) + 2 ∧ 4 * (t : Int) + 2 < 12 := by omega
          have hw3 : IntKind.i64.wrap (4 * (t : Int) + 3) = 4 * (t : Int) + 3 := by rw [IntKind.wrap_i64]; omega
          have q3 : (4 * (t : Int) + 3).toNat = 4 * t + 3 := by omega
          have p3 : (0 : Int) ≤ 4 * (t : Int) + 3 ∧ 4 * (t : Int) + 3 < 12 := by omega
          have HWd : Hid (wordLE nonce t = oo (oo (oo (ex (gb nonce (4 * t))) (sl (ex (gb nonce (4 * t + 1))) 8)) (sl (ex (gb nonce (4 * t + 2))) 16)) (sl (ex (gb nonce (4 * t + 3))) 24)) := show _ = _ by rfl
          rw [v8_ex] at c0 c1 c2 c3
          generalize gb nonce (4 * t) = b0 at *
          generalize gb nonce (4 * t + 1) = b1 at *
          generalize gb nonce (4 * t + 2) = b2 at *
          generalize gb nonce (4 * t + 3) = b3 at *
          have u0 := u_nn (ex b0)
          have l0 : u (ex b0) ≤ 255 := by rw [← v8_ex]; exact v8_le _
          have u1 := u_nn (ex b1)
          have l1 : u (ex b1) ≤ 255 := by rw [← v8_ex]; exact v8_le _
          have u2 := u_nn (ex b2)
          have l2 : u (ex b2) ≤ 255 := by rw [← v8_ex]; exact v8_le _
          have u3 := u_nn (ex b3)
          have l3 : u (ex b3) ≤ 255 := by rw [← v8_ex]; exact v8_le _
          have HV : Hid (bits .or .u32 (bits .or .u32 (bits .or .u32 (u (ex b0)) (u (ex b1) * 256)) (u (ex b2) * 65536)) (u (ex b3) * 16777216) = u (wordLE nonce t)) := show _ = _ by
            rw [shlS (ex b1) 8 256 (by decide) (by omega), shlS (ex b2) 16 65536 (by decide) (by omega), shlS (ex b3) 24 16777216 (by decide) (by omega), bo, bo, bo, HWd.out]
          go_wp2
          go_region
          all_goals go_wp2
          all_goals
            go_roundw
            case rel =>
              rw [HV.out]
              refine ⟨t + 1, by omega, by go_num, r0.other (by show w.heap.size ≠ w.heap.size + 1; omega) _, ?_, hbel.drew.setCell (p := ⟨w.heap.size + 1, 13 + t, none⟩) (by show w.heap.size ≤ w.heap.size + 1; omega) _⟩
              rw [← Nat.add_assoc, ← HE.out, ← ws_set]
              exact r1.set (13 + t) _
            case measure => simp [intOf]; omega
        · have r4 : Row wr (w.heap.size + 1) 40 (ws (stateL key count nonce)) := by
            have := r1
            rw [show t = 3 by omega] at this
            rw [← st0_all]
            exact this
          clear r1
          have hd3 : decide ((t : Int) < 3) = false := by simp; omega
          have c32 := from_count r0 HK.out
          have HR0 := veil r0
          generalize wr = W4 at *
          go_wp2_with (first
            | (with_reducible (show wpList _ _ _ (⟨_, Op.load 22 _, _, _, _, _⟩ :: _) _ _)
               refine load_part rfl 22 _ rfl w.heap.size 0 rfl (bs key) _ Tryd.underlying22 rfl 32 (by kernel_rfl) hkz (from_key HR0.out) ?_)
            | (with_reducible (show wpList _ _ _ (⟨_, Op.load 24 _, _, _, _, _⟩ :: _) _ _)
               refine load_part rfl 24 _ rfl w.heap.size 33 rfl (bs nonce) _ Tryd.underlying24 rfl 12 (by kernel_rfl) hnz (from_nonce HR0.out HK.out) ?_))
          refine (block_any key count nonce HK.out HN.out W4 (HG.out.below hbel (Nat.le_refl _))).mono ?_
          rintro e1 w1 ⟨rfl, hb1⟩
          have r5 := r4.below hb1 r4.lt
          have b5 := hbel.trans (hb1.mono hbel.size)
          have hl5 := r5.lt
          have HL := veil (stateL_length key count nonce)
          obtain ⟨R, HRR, HBL⟩ : ∃ R, Hid (∀ j, j = 10 → roundsL (stateL key count nonce) j = R) ∧ Hid (∀ i, i < 16 → sb (wordLE (blockL key count nonce) i) (gw (stateL key count nonce) i) = gw R i) := ⟨roundsL (stateL key count nonce) 10, (show ∀ j, j = 10 → roundsL (stateL key count nonce) j = roundsL (stateL key count nonce) 10 from fun j hj => by rw [hj]), (show ∀ i, i < 16 → sb (wordLE (blockL key count nonce) i) (gw (stateL key count nonce) i) = gw (roundsL (stateL key count nonce) 10) i from fun i hi => by
            unfold blockL
            rw [wordLE_bytesL _ _ hi, sumL16_gw _ _ _ hi, sb_ad])⟩
          have HR16 : Hid (R.length = 16) := show _ = _ by rw [← HRR.out 10 rfl, roundsL_length]; exact HL.out
          have HB64 := veil (blockL_length key count nonce)
          have hB : (bs (blockL key count nonce)).size = 64 := by rw [bs_size, blockL_length]
          generalize blockL key count nonce = B at *
          generalize stateL key count nonce = s at *
          clear hb1 r0 r4 hbel HR0 c32
          go_wp2_with (first
            | (with_reducible (show wpList _ _ _ (⟨_, Op.alloc 27, _, _, _, _⟩ :: _) _ _)
               refine alloc_row rfl 27 rfl (bs (List.replicate 64 0)) (by kernel_rfl) ?_)
            | (with_reducible (show wpList _ _ _ (⟨_, Op.store 27 _ _, _, _, _, _⟩ :: _) _ _)
               refine store_new (w := w1) (by rfl) 27 _ _ (by rfl) w1.heap.size (bs B) (by rfl) (by rfl) 27 _ (by rfl) 64 (by kernel_rfl) (by rfl) hB (bs_one _) ?_)
            | (with_reducible (show wpList _ _ _ (⟨_, Op.alloc 40, _, _, _, _⟩ :: _) _ _)
               refine alloc_row rfl 40 rfl (ws (List.replicate 16 0)) (by kernel_rfl) ?_))
          go_loopw [8] (fun i wr => ∃ t : Nat, t ≤ 16 ∧ i = .int .i64 t ∧ Row wr (w.heap.size + 1) 40 (ws s) ∧ Row wr w1.heap.size 27 (bs B) ∧ Row wr (w1.heap.size + 1) 40 (ws (mixed R (List.replicate 16 0) t)) ∧ Below w.heap.size w wr)
            (fun i _ => 16 - (intOf i).toNat)
          case atStart => exact ⟨0, by omega, rfl, (r5.alloc _).alloc _, (Row.new _ _ _).alloc _, by rw [mixed_zero]; exact Row.new1 _ _ _ _, (b5.alloc b5.size _).alloc (by have := b5.size; simp; omega) _⟩
          case round =>
            clear r5 b5
            obtain ⟨t, ht, rfl, r5, rB, rS, hbel⟩ := hrel
            by_cases hlt : t < 16
            · have hR : R[t]? = some (gw R t) := by unfold gw; rw [List.getElem?_eq_getElem (by rw [HR16.out]; exact hlt)]; rfl
              have HE := (show Hid _ from mixed_set R (List.replicate 16 0) t 16 HR16.out (by simp) hlt _ hR)
              have HEQ : Hid (sb (wordLE B t) (gw s t) = gw R t) := show _ = _ from HBL.out t hlt
              rw [← HEQ.out] at HE
              have hlen : (mixed R (List.replicate 16 0) t).length = 16 := mixed_length _ _ t 16 HR16.out (by simp) ht
              have c0 := rB.cellB (j := 4 * t) (by rw [HB64.out]; omega)
              have c1 := rB.cellB (j := 4 * t + 1) (by rw [HB64.out]; omega)
              have c2 := rB.cellB (j := 4 * t + 2) (by rw [HB64.out]; omega)
              have c3 := rB.cellB (j := 4 * t + 3) (by rw [HB64.out]; omega)
              obtain ⟨v, hv⟩ : ∃ v, wr.cell? ⟨w1.heap.size + 1, t, none⟩ = some v := ⟨_, rS.cellW (by rw [hlen]; exact hlt)⟩
              have f3 := rS.frozen t
              have hpz : (0 : Int) ≤ (t : Int) ∧ (t : Int) < 16 := by omega
              clear hR hlen HEQ
              have hw0 : IntKind.i64.wrap (4 * (t : Int)) = 4 * (t : Int) := by rw [IntKind.wrap_i64]; omega
              have q0 : (4 * (t : Int)).toNat = 4 * t := by omega
              have p0 : (0 : Int) ≤ 4 * (t : Int) ∧ 4 * (t : Int) < 64 := by omega
              have hw1 : IntKind.i64.wrap (4 * (t : Int) + 1) = 4 * (t : Int) + 1 := by rw [IntKind.wrap_i64]; omega
              have q1 : (4 * (t : Int) + 1).toNat = 4 * t + 1 := by omega
              have p1 : (0 : Int) ≤ 4 * (t : Int) + 1 ∧ 4 * (t : Int) + 1 < 64 := by omega
              have hw2 : IntKind.i64.wrap (4 * (t : Int) + 2) = 4 * (t : Int) + 2 := by rw [IntKind.wrap_i64]; omega
              have q2 : (4 * (t : Int) + 2).toNat = 4 * t + 2 := by omega
              have p2 : (0 : Int) ≤ 4 * (t : Int) + 2 ∧ 4 * (t : Int) + 2 < 64 := by omega
              have hw3 : IntKind.i64.wrap (4 * (t : Int) + 3) = 4 * (t : Int) + 3 := by rw [IntKind.wrap_i64]; omega
              have q3 : (4 * (t : Int) + 3).toNat = 4 * t + 3 := by omega
              have p3 : (0 : Int) ≤ 4 * (t : Int) + 3 ∧ 4 * (t : Int) + 3 < 64 := by omega
              have HWd : Hid (wordLE B t = oo (oo (oo (ex (gb B (4 * t))) (sl (ex (gb B (4 * t + 1))) 8)) (sl (ex (gb B (4 * t + 2))) 16)) (sl (ex (gb B (4 * t + 3))) 24)) := show _ = _ by rfl
              rw [v8_ex] at c0 c1 c2 c3
              generalize gb B (4 * t) = b0 at *
              generalize gb B (4 * t + 1) = b1 at *
              generalize gb B (4 * t + 2) = b2 at *
              generalize gb B (4 * t + 3) = b3 at *
              have u0 := u_nn (ex b0)
              have l0 : u (ex b0) ≤ 255 := by rw [← v8_ex]; exact v8_le _
              have u1 := u_nn (ex b1)
              have l1 : u (ex b1) ≤ 255 := by rw [← v8_ex]; exact v8_le _
              have u2 := u_nn (ex b2)
              have l2 : u (ex b2) ≤ 255 := by rw [← v8_ex]; exact v8_le _
              have u3 := u_nn (ex b3)
              have l3 : u (ex b3) ≤ 255 := by rw [← v8_ex]; exact v8_le _
              have HV : Hid (bits .or .u32 (bits .or .u32 (bits .or .u32 (u (ex b0)) (u (ex b1) * 256)) (u (ex b2) * 65536)) (u (ex b3) * 16777216) = u (wordLE B t)) := show _ = _ by
                rw [shlS (ex b1) 8 256 (by decide) (by omega), shlS (ex b2) 16 65536 (by decide) (by omega), shlS (ex b3) 24 16777216 (by decide) (by omega), bo, bo, bo, HWd.out]
              go_wp2
              go_region
              rw [HV.out]
              have rS1 := (rS.set t (.int .u32 (u (wordLE B t)))).drew
              have r51 := (r5.other (a := ⟨w1.heap.size + 1, t, none⟩) (by show w.heap.size + 1 ≠ w1.heap.size + 1; omega) (.int .u32 (u (wordLE B t)))).drew
              have rB1 := (rB.other (a := ⟨w1.heap.size + 1, t, none⟩) (by show w1.heap.size ≠ w1.heap.size + 1; omega) (.int .u32 (u (wordLE B t)))).drew
              have bel1 := (hbel.setCell (p := ⟨w1.heap.size + 1, t, none⟩) (by show w.heap.size ≤ w1.heap.size + 1; omega) (.int .u32 (u (wordLE B t)))).drew
              rw [ws_set] at rS1
              have HM : Hid ((mixed R (List.replicate 16 0) t).length = 16) := show _ = _ from mixed_length _ _ t 16 HR16.out (by simp) ht
              have cs : (wr.setCell ⟨w1.heap.size + 1, t, none⟩ (.int .u32 (u (wordLE B t)))).drew.cell? ⟨w1.heap.size + 1, t, none⟩ = some (.int .u32 (u (wordLE B t))) := by
                have := rS1.cellW (j := t) (by rw [List.length_set, HM.out]; exact hlt)
                rw [gw_set _ _ _ _ (by rw [HM.out]; exact hlt), if_pos rfl] at this
                exact this
              have cf := r51.cellW (j := t) (by rw [HL.out]; exact hlt)
              have fs := rS1.frozen t
              generalize (wr.setCell ⟨w1.heap.size + 1, t, none⟩ (.int .u32 (u (wordLE B t)))).drew = V1 at *
              clear rS r5 rB hbel hv f3 c0 c1 c2 c3 HWd HV
              have hsub := wsub (wordLE B t) (gw s t)
              generalize wordLE B t = X at *
              generalize gw s t = Y at *
              go_wp2
              go_region
              all_goals go_wp2
              all_goals
                go_roundw
                case rel =>
                  refine ⟨t + 1, by omega, by go_num, r51.other (by show w.heap.size + 1 ≠ w1.heap.size + 1; omega) _, rB1.other (by show w1.heap.size ≠ w1.heap.size + 1; omega) _, ?_, bel1.drew.setCell (p := ⟨w1.heap.size + 1, t, none⟩) (by show w.heap.size ≤ w1.heap.size + 1; omega) _⟩
                  have := rS1.set t (.int .u32 (u (sb X Y)))
                  rw [ws_set, List.set_set, HE.out] at this
                  exact this
                case measure => simp [intOf]; omega
            · rw [show t = 16 by omega, mixed_all R _ 16 HR16.out (by simp)] at rS
              have hd4 : decide ((t : Int) < 16) = false := by simp; omega
              rw [← HRR.out 10 rfl] at rS
              clear rB HBL HB64 hB HR16 HRR
              generalize wr = W5 at *
              go_wp2
              go_loopw [9] (fun i wr => ∃ t : Nat, t ≤ 10 ∧ i = .int .i64 t ∧ Row wr (w.heap.size + 1) 40 (ws s) ∧ Row wr (w1.heap.size + 1) 40 (ws (roundsL s (10 - t))) ∧ Below w.heap.size w wr)
                (fun i _ => 10 - (intOf i).toNat)
              case atStart => exact ⟨0, by omega, rfl, r5, rS, hbel⟩
              case round =>
                clear r5 rS hbel
                obtain ⟨t, ht, rfl, r5, r8, hbel⟩ := hrel
                by_cases hlt : t < 10
                · have HR : Hid ((roundsL s (10 - (t + 1))).length = 16) := show _ = _ by rw [roundsL_length]; exact HL.out
                  have e10 : 10 - t = (10 - (t + 1)) + 1 := by omega
                  rw [e10, roundsL_succ, twoL] at r8
                  have HT0 : Hid (twoTo (roundsL s (10 - (t + 1))) 0 = roundsL s (10 - (t + 1))) := show _ = _ from twoTo_zero _
                  generalize hSS : roundsL s (10 - (t + 1)) = S at *
                  have HSS := veil hSS
                  clear hSS
                  have hl7 := r5.lt
                  have hsz := hbel.size
                  clear e10
                  go_wp2_with fail
                  refine (undQ 7 (by omega) 3 4 9 14 rfl rfl rfl rfl (w1.heap.size + 1) 40 S HR.out wr r8).mono ?_
                  rintro ez z0 ⟨rfl, h8, hz⟩
                  replace r5 := r5.below hz (by omega)
                  replace hbel := hbel.trans (hz.mono (by omega))
                  clear r8
                  have r8 := h8
                  clear h8 hz
                  go_wp2_with fail
                  refine (undQ 6 (by omega) 2 7 8 13 rfl rfl rfl rfl (w1.heap.size + 1) 40 S HR.out z0 r8).mono ?_
                  rintro ez z1 ⟨rfl, h8, hz⟩
                  replace r5 := r5.below hz (by omega)
                  replace hbel := hbel.trans (hz.mono (by omega))
                  clear r8
                  have r8 := h8
                  clear h8 hz
                  go_wp2_with fail
                  refine (undQ 5 (by omega) 1 6 11 12 rfl rfl rfl rfl (w1.heap.size + 1) 40 S HR.out z1 r8).mono ?_
                  rintro ez z2 ⟨rfl, h8, hz⟩
                  replace r5 := r5.below hz (by omega)
                  replace hbel := hbel.trans (hz.mono (by omega))
                  clear r8
                  have r8 := h8
                  clear h8 hz
                  go_wp2_with fail
                  refine (undQ 4 (by omega) 0 5 10 15 rfl rfl rfl rfl (w1.heap.size + 1) 40 S HR.out z2 r8).mono ?_
                  rintro ez z3 ⟨rfl, h8, hz⟩
                  replace r5 := r5.below hz (by omega)
                  replace hbel := hbel.trans (hz.mono (by omega))
                  clear r8
                  have r8 := h8
                  clear h8 hz
                  go_wp2_with fail
                  refine (undQ 3 (by omega) 3 7 11 15 rfl rfl rfl rfl (w1.heap.size + 1) 40 S HR.out z3 r8).mono ?_
                  rintro ez z4 ⟨rfl, h8, hz⟩
                  replace r5 := r5.below hz (by omega)
                  replace hbel := hbel.trans (hz.mono (by omega))
                  clear r8
                  have r8 := h8
                  clear h8 hz
                  go_wp2_with fail
                  refine (undQ 2 (by omega) 2 6 10 14 rfl rfl rfl rfl (w1.heap.size + 1) 40 S HR.out z4 r8).mono ?_
                  rintro ez z5 ⟨rfl, h8, hz⟩
                  replace r5 := r5.below hz (by omega)
                  replace hbel := hbel.trans (hz.mono (by omega))
                  clear r8
                  have r8 := h8
                  clear h8 hz
                  go_wp2_with fail
                  refine (undQ 1 (by omega) 1 5 9 13 rfl rfl rfl rfl (w1.heap.size + 1) 40 S HR.out z5 r8).mono ?_
                  rintro ez z6 ⟨rfl, h8, hz⟩
                  replace r5 := r5.below hz (by omega)
                  replace hbel := hbel.trans (hz.mono (by omega))
                  clear r8
                  have r8 := h8
                  clear h8 hz
                  go_wp2_with fail
                  refine (undQ 0 (by omega) 0 4 8 12 rfl rfl rfl rfl (w1.heap.size + 1) 40 S HR.out z6 r8).mono ?_
                  rintro ez z7 ⟨rfl, h8, hz⟩
                  replace r5 := r5.below hz (by omega)
                  replace hbel := hbel.trans (hz.mono (by omega))
                  clear r8
                  have r8 := h8
                  clear h8 hz
                  go_wp2_with fail
                  go_roundw
                  case rel => exact ⟨t + 1, by omega, by go_num, r5, by rw [HSS.out]; rw [HT0.out] at r8; exact r8, hbel⟩
                  case measure => simp [intOf]; omega
                · rw [show 10 - t = 0 by omega, roundsL_zero] at r8
                  have hd5 : decide ((t : Int) < 10) = false := by simp; omega
                  generalize wr = W6 at *
                  go_wp2_with fail
                  refine (alive_any W6 (HG.out.below hbel (Nat.le_refl _))).mono ?_
                  rintro e7 w7 ⟨rfl, hb7⟩
                  have r57 := r5.below hb7 r5.lt
                  have r87 := r8.below hb7 r8.lt
                  have b7 := hbel.trans (hb7.mono hbel.size)
                  clear hb7 r5 r8 hbel
                  have hws : (ws s).size = 16 := by rw [ws_size, HL.out]
                  go_wp2_with (first
                    | (with_reducible (show wpList _ _ _ (⟨_, Op.load 40 (Operand.tmp 7), _, _, _, _⟩ :: _) _ _)
                       refine load_rowG rfl 40 _ rfl (w1.heap.size + 1) rfl _ _ r87 16 23 Tryd.underlying40 (by kernel_rfl) hws ?_)
                    | (with_reducible (show wpList _ _ _ (⟨_, Op.load 40 (Operand.tmp 3), _, _, _, _⟩ :: _) _ _)
                       refine load_rowG rfl 40 _ rfl (w.heap.size + 1) rfl _ _ r57 16 23 Tryd.underlying40 (by kernel_rfl) hws ?_)
                    | (with_reducible (show wpList _ _ _ (⟨_, Op.binOp BinOp.eql 40 _ _ _, _, _, _, _⟩ :: _) _ _)
                       refine value_G rfl (.bool true) (exec_eql_self w7 40 23 16 .u32 _ _ 40 (ws s) rfl rfl rfl Tryd.underlying40 Tryd.underlying23 (by kernel_rfl) (by kernel_rfl) (by kernel_rfl) (fun j hj => ⟨_, ws_get s j (by rw [HL.out]; exact hj)⟩)) ?_))
                  go_ret
                  exact ⟨rfl, b7⟩
end Go.Proofs.YtcdmnbmniiblgaaDoor
