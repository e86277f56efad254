/-
  ShaChains' walk.
-/
import Derived.Test.YtlhbeaoffmohlaaShaChPlain
import Derived.Test.YtlhbeaoffmohlaaShaBlock
import Derived.Test.YtlhbeaoffmohlaaShaAlive
import Derived.Test.YtlhbeaoffmohlaaShaUndPlain
import Derived.Test.YtlhbeaoffmohlaaShaRef
import Derived.WalkKit
import Derived.WalkSpells
import Derived.WalkLawsBesides
import Derived.Deep.QuietTactic
import Derived.BigQuiet
namespace Go.Proofs.Ytlhbeaoffmohlaa
open Go Go.RowKit

set_option maxRecDepth 20000 in
set_option maxHeartbeats 1000000 in
theorem chains_walk (g off : Nat) (a : Option Addr) (len cap : Nat) (b : List By) (w : World) (hb : b.length = len) (hl63 : len ≤ 9223372036854775807) (hcap : len ≤ cap) (hn : a = none → len = 0 ∧ cap = 0) (ha : 0 < len → a = some ⟨g, off, none⟩) (hgl : 0 < len → g < w.heap.size) (hc : ∀ j : Nat, j < len → w.cell? ⟨g, off + j, none⟩ = some (.int .u8 (v8 (gb b j)))) :
    Calls Try.prog 5 #[.slice a len cap] w fun e w' => e = .returned (.bool true) ∧ Below w.heap.size w w' := by
  obtain ⟨i0, hi, hz0, hz1, hz2⟩ := info_parts (P := Try.prog) (e := 5) (z := .int .u8 0) (size := 1) (bytes := 1) (by kernel_rfl)
  have HB := veil hb
  have HA := veil ha
  have HN := veil hn
  have HGL := veil hgl
  have HC := veil hc
  clear hb ha hgl hc hn
  go_enter Try.func5, Try.ntmps5
  go_wp2_with fail
  refine (alive_any w).mono ?_
  rintro e1 w1 ⟨rfl, hb1⟩
  by_cases hbig : (5000 : Int) < (len : Int)
  · go_wp2_with fail
    refine (alive_any w1).mono ?_
    rintro e2 w2 ⟨rfl, hb2⟩
    go_wp2_with fail
    go_ret
    exact ⟨rfl, hb1.trans (hb2.mono hb1.size)⟩
  · have hs1 := hb1.size
    have HC1 : Hid (∀ j : Nat, j < len → w1.cell? ⟨g, off + j, none⟩ = some (.int .u8 (v8 (gb b j)))) := fun j hj => (hb1.cell (p := ⟨g, off + j, none⟩) (HGL.out (by omega))).trans (HC.out j hj)
    have hd5 : decide ((5000 : Int) < (len : Int)) = false := by simp; omega
    have hlen : len ≤ 5000 := by omega
    go_wp2_with (first
      | (with_reducible (show wpList _ _ _ (⟨some 22, Op.call _, _, _, _, _⟩ :: _) _ _)
         refine append_in rfl _ _ 22 rfl w.heap.size i0 Try.underlying22 hi hz0 hz1 hz2 rfl a g off len cap b HB.out (by omega) rfl HN.out HA.out HC1.out hs1 ?_
         intro v2 w2 hown2 hgrow2
         have hs2 := hgrow2.size)
      | (with_reducible (show wpList _ _ _ (⟨some 25, Op.call _, _, _, _, _⟩ :: _) _ _)
         refine wpList_append_own _ rfl _ _ 22 rfl w.heap.size 5 i0 (.int .u8 0) 1 1 Try.underlying22 hi hz0 hz1 hz2 rfl (by decide) _ len _ rfl (hown2.alloc _) ⟨w2.heap.size, 0, none⟩ 1 1 [.int .u8 128] rfl rfl (cell_one_new _ _ _) (by simp [Value.oneCell']) (by unfold maxLen; omega) (by omega) (by simp; omega) ?_
         intro v3 w3 hown3 hgrow3 _
         obtain ⟨g3, c3, rfl⟩ := ownsRow_succ hown3))
    have HO3 : Hid (OwnB w3 w.heap.size g3 (len + 1) c3 (b ++ [128])) := ⟨by rw [List.length_append, HB.out]; rfl, by rw [vb_append]; exact hown3⟩
    have HB2 : Below w.heap.size w w2 := hb1.grown hgrow2 hs1 (fun k e => by cases e)
    have HB3 : Hid (Below w.heap.size w w3) := (HB2.alloc HB2.size _).grown hgrow3 (by simp; omega) (fun k e => ((hown2.alloc (.cells #[.int .u8 128] 5)).lt k e).1)
    clear hown3 hgrow3 hown2 hgrow2 HB2 hb1 HC1
    have HPZ := padZ_le len
    have HPM := padZ_mod len
    have hz8 : List.replicate 0 (0 : By) = [] := rfl
    go_loopw [3] (fun v wr => ∃ (k g' c' : Nat), k ≤ padZ len ∧ v = .slice (some ⟨g', 0, none⟩) (len + 1 + k) c' ∧ OwnB wr w.heap.size g' (len + 1 + k) c' (b ++ 128 :: List.replicate k 0) ∧ Below w.heap.size w wr)
      (fun v _ => padZ len + len + 1 - slen v)
    case atStart => exact ⟨0, g3, c3, Nat.zero_le _, rfl, HO3.out, HB3.out⟩
    case round =>
      clear HO3 HB3
      obtain ⟨k, g4, c4, hk, rfl, ho, hbel⟩ := hrel
      have HO := veil ho
      have HBl := veil hbel
      have hsz := hbel.size
      clear ho hbel
      by_cases hlt : k < padZ len
      · have hne : ¬ (len + 1 + k) % 64 = 56 := by unfold padZ at hlt; omega
        have hneI : ¬ ((len : Int) + 1 + (k : Int)) % 64 = 56 := by omega
        go_wp2_with (first
          | (with_reducible (show wpList _ _ _ (⟨some 32, Op.call _, _, _, _, _⟩ :: _) _ _)
             refine wpList_append_own _ rfl _ _ 22 rfl w.heap.size 5 i0 (.int .u8 0) 1 1 Try.underlying22 hi hz0 hz1 hz2 rfl (by decide) _ (len + 1 + k) _ rfl (HO.out.row.alloc _) ⟨wr.heap.size, 0, none⟩ 1 1 [.int .u8 0] rfl rfl (cell_one_new _ _ _) (by simp [Value.oneCell']) (by unfold maxLen; omega) (by omega) (by simp; omega) ?_
             intro v5 w5 hown5 hgrow5 _
             obtain ⟨g5, c5, rfl⟩ := ownsRow_succ hown5))
        refine ⟨⟨k + 1, g5, c5, by omega, rfl, ⟨?_, ?_⟩, (HBl.out.alloc HBl.out.size _).grown hgrow5 (by simp; omega) (fun q e => ((HO.out.row.alloc (.cells #[.int .u8 0] 5)).lt q e).1)⟩, ?_⟩
        · simp only [List.length_append, List.length_cons, List.length_replicate, HB.out]; omega
        · have e : b ++ 128 :: List.replicate (k + 1) 0 = (b ++ 128 :: List.replicate k 0) ++ [0] := by
            rw [List.replicate_succ', List.append_assoc, List.cons_append]
          rw [e, vb_append]
          exact hown5
        · simp only [slen]; omega
      · obtain rfl : k = padZ len := by omega
        have heq : (len + 1 + padZ len) % 64 = 56 := padZ_mod len
        have heqI : ((len : Int) + 1 + (padZ len : Int)) % 64 = 56 := by omega
        generalize wr = W0 at *
        have HPad : Hid (padL b = (b ++ 128 :: List.replicate (padZ len) 0) ++ lenB len) := show padL b = _ by
          unfold padL; rw [HB.out, List.append_assoc, List.cons_append]
        have HNb : Hid (64 * nb b = len + 1 + padZ len + 8) := show 64 * nb b = _ by rw [nb_mul, padL_length, HB.out]; omega
        generalize padZ len = z at *
        have HV := veil (vb_lenB len hlen)
        go_wp2_with (first
          | (with_reducible (show wpList _ _ _ (⟨some 62, Op.call _, _, _, _, _⟩ :: _) _ _)
             refine Hid.out ?_))
        refine show wpList _ _ _ _ _ _ from ?_
        refine wpList_append_own _ rfl _ _ 22 rfl w.heap.size 5 i0 (.int .u8 0) 1 1 Try.underlying22 hi hz0 hz1 hz2 rfl (by decide) _ (len + 1 + z) _ rfl (HO.out.row.alloc _) ⟨W0.heap.size, 0, none⟩ 8 8 (vb (lenB len)) rfl (by rw [vb_length, lenB_length]) (by rw [HV.out]; exact fun j u h => cells_new W0 _ 5 j u h) (vb_one _) (by unfold maxLen; omega) (by omega) (by simp; omega) ?_
        intro v6 w6 hown6 hgrow6 _
        obtain ⟨g6, c6, rfl⟩ := ownsRow_succ (k := len + 1 + z + 7) hown6
        obtain ⟨N, hN⟩ : ∃ N, N = 64 * nb b := ⟨_, rfl⟩
        have HO6 : Hid (OwnB w6 w.heap.size g6 N c6 (padL b)) := show OwnB w6 w.heap.size g6 N c6 (padL b) from ⟨hN ▸ (nb_mul b).symm, by rw [hN, HNb.out, HPad.out, vb_append]; exact hown6⟩
        have HB6 : Hid (Below w.heap.size w w6) := (HBl.out.alloc HBl.out.size _).grown hgrow6 (by simp; omega) (fun q e => ((HO.out.row.alloc (.cells #[] 5)).lt q e).1)
        clear hown6 hgrow6
        rw [show len + 1 + z + 7 + 1 = N from hN ▸ HNb.out.symm]
        have hNl : N ≤ 5100 := by have := HNb.out; omega
        have HN := veil hN
        have hs6 := HB6.out.size
        have hg6 := HO6.out.lt
        clear hN HO HBl HV
        go_wp2_with fail
        refine (lawBegin_any w6).mono ?_
        rintro e7 w7 ⟨rfl, hw⟩
        rw [hw]
        clear hw w7
        go_wp2_with (first
          | (with_reducible (show wpList _ _ _ (⟨_, Op.store 31 _ _, _, _, _, _⟩ :: _) _ _)
             refine store_new (w := w6.alloc (.cells (ws HW) 31)) rfl 31 _ _ rfl (w6.heap.size + 1) (ws HW) rfl rfl _ _ (by simp) 8 (by kernel_rfl) (by rfl) (by rw [ws_size, HW_length]) (ws_one _) ?_))
        have HO7 : Hid (OwnB ((w6.alloc (.cells (ws HW) 31)).alloc (.cells (ws HW) 31)) w.heap.size g6 N c6 (padL b)) := HO6.out.below (((Below.refl _ w6).alloc (Nat.le_refl _) _).alloc (by simp) _)
        go_loopw [6] (fun v wr => ∃ i A : Nat, i ≤ nb b ∧ A = 64 * i ∧ v = .int .i64 (A : Int) ∧ Row wr (w6.heap.size + 1) 31 (ws (chain HW (blkTo b i))) ∧ OwnB wr w.heap.size g6 N c6 (padL b) ∧ Below w.heap.size w wr)
          (fun v _ => N - (intOf v).toNat)
        case atStart => exact ⟨0, 0, Nat.zero_le _, rfl, rfl, Row.new1 _ _ _ _, HO7.out, (HB6.out.alloc HB6.out.size _).alloc (by have := HB6.out.size; simp; omega) _⟩
        case round =>
          clear HO7 HB6 HO6
          obtain ⟨i, A, hiN, hA, rfl, rS, ho, hbel⟩ := hrel
          have hcl := veil (chain_length HW HW_length (blkTo b i))
          have hsz := hbel.size
          have hrS := rS.lt
          by_cases hlt : i < nb b
          · have hAN : A + 64 ≤ N := by have := HN.out; omega
            have HI := veil hlt
            have HAi := veil hA
            have HBk := veil (blkAt_take b i hlt)
            have hbk := veil (blkAt b i).2
            have HO := veil ho
            have HS := veil rS
            have HBl := veil hbel
            have hAN' : (A : Int) < (N : Int) := by omega
            have hg3 := ho.lt.2
            generalize wr = W3 at *
            clear hA hlt ho rS hbel hiN
            go_wp2_with (first
              | (with_reducible (show wpList _ _ _ (⟨_, Op.alloc 32, _, _, _, _⟩ :: _) _ _)
                 refine alloc_row rfl 32 rfl (bs zB) (by kernel_rfl) ?_))
            go_loopw [8] (fun v w4 => ∃ j : Nat, j ≤ 64 ∧ v = .int .i64 (j : Int) ∧ Row w4 W3.heap.size 32 (bs ((blkAt b i).1.take j ++ List.replicate (64 - j) 0)) ∧ Row w4 (w6.heap.size + 1) 31 (ws (chain HW (blkTo b i))) ∧ OwnB w4 w.heap.size g6 N c6 (padL b) ∧ Below w.heap.size w w4)
              (fun v _ => 64 - (intOf v).toNat)
            case atStart => exact ⟨0, Nat.zero_le _, rfl, Row.new _ _ _, HS.out.alloc _, HO.out.below ((Below.refl _ _).alloc (Nat.le_refl _) _), HBl.out.alloc HBl.out.size _⟩
            case round =>
              clear HS HO HBl
              obtain ⟨j, hj, rfl, rB, rS, ho, hbel⟩ := hrel
              have hlo := ho.lt
              by_cases hj64 : j < 64
              · have cb := ho.cell (j := A + j) (by omega)
                have hgb : (blkAt b i).1[j]? = some (gb (padL b) (A + j)) := by
                  rw [HBk.out, ← HAi.out, List.getElem?_take_of_lt hj64, List.getElem?_drop]
                  unfold gb
                  rw [List.getElem?_eq_getElem (by rw [ho.len]; omega)]
                  rfl
                have hst := veil (fill_set2 (blkAt b i).1 0 j 64 (by rw [hbk.out]; exact hj64) hj64 _ hgb)
                obtain ⟨v, hv⟩ : ∃ v, wr.cell? ⟨W3.heap.size, j, none⟩ = some v := ⟨_, rB.cellB (by simp [hbk.out]; omega)⟩
                have fB := rB.frozen j
                clear hgb
                generalize gb (padL b) (A + j) = x at *
                have hw1 : IntKind.i64.wrap ((A : Int) + (j : Int)) = (A : Int) + (j : Int) := by rw [IntKind.wrap_i64]; omega
                have hq1 : ((A : Int) + (j : Int)).toNat = A + j := by omega
                have hl1 : (0 : Int) ≤ (A : Int) + (j : Int) ∧ (A : Int) + (j : Int) < (N : Int) := by omega
                have hl2 : (0 : Int) ≤ (j : Int) ∧ (j : Int) < 64 := by omega
                have HO := veil ho
                clear ho
                go_wp2
                refine ⟨⟨j + 1, by omega, by go_num, ?_, rS.other (by show w6.heap.size + 1 ≠ W3.heap.size; omega) _, HO.out.other (by omega) _ _, hbel.setCell (p := ⟨W3.heap.size, j, none⟩) (by show w.heap.size ≤ W3.heap.size; omega) _⟩, by simp only [intOf]; omega⟩
                have := rB.set j (.int .u8 (v8 x))
                rw [bs_set, hst.out] at this
                exact this
              · obtain rfl : j = 64 := by omega
                rw [List.take_of_length_le (by rw [hbk.out]; exact Nat.le_refl _), Nat.sub_self, List.replicate_zero, List.append_nil] at rB
                have HO := veil ho
                clear ho
                generalize wr = W4 at *
                go_wp2_with (first
                  | (with_reducible (show wpList _ _ _ (⟨_, Op.load 31 _, _, _, _, _⟩ :: _) _ _)
                     refine load_row rfl 31 _ rfl (w6.heap.size + 1) rfl _ _ rS 8 30 Try.underlying31 (by kernel_rfl) (by rw [ws_size, hcl.out]) ?_)
                  | (with_reducible (show wpList _ _ _ (⟨_, Op.load 32 _, _, _, _, _⟩ :: _) _ _)
                     refine load_row rfl 32 _ rfl W3.heap.size rfl _ _ rB 64 5 Try.underlying32 (by kernel_rfl) (by rw [bs_size, hbk.out]) ?_))
                refine (block_any (chain HW (blkTo b i)) (blkAt b i).1 hcl.out hbk.out W4).mono ?_
                rintro e5 w5 ⟨rfl, hb5⟩
                have k5 := rS.below hb5 rS.lt
                have HO5 := veil (HO.out.below hb5)
                have HB5 := veil (hbel.trans (hb5.mono hbel.size))
                clear hb5 HO hbel rS rB
                have hb64 : IntKind.i64.wrap ((A : Int) + 64) = (A : Int) + 64 := by rw [IntKind.wrap_i64]; omega
                go_wp2_with (first
                  | (with_reducible (show wpList _ _ _ (⟨_, Op.store 31 _ _, _, _, _, _⟩ :: _) _ _)
                     refine store_row rfl 31 _ _ rfl (w6.heap.size + 1) (ws (furtherL (chain HW (blkTo b i)) KW (blkAt b i).1)) rfl rfl _ _ k5 8 (by kernel_rfl) (by rw [ws_size, hcl.out]) (by rw [ws_size, furtherL_length]) (ws_one _) ?_))
                refine ⟨⟨i + 1, A + 64, by have := HI.out; omega, by have := HAi.out; omega, by go_num, ?_, HO5.out.putOther (by omega) _, bSetRow HB5.out (by omega) _⟩, by simp only [intOf]; omega⟩
                rw [blkTo_succ, chain_snoc]
                exact k5.put _
          · have hi : i = nb b := by omega
            subst hi
            have hAN : A = N := by have := HN.out; omega
            subst hAN
            generalize wr = W3 at *
            clear ho hlt hA
            go_wp2_with fail
            refine (sum_any g off a len cap b W3 HB.out (by omega) hcap HA.out (fun h => Nat.lt_of_lt_of_le (HGL.out h) hsz) (fun j hj => (hbel.cell (p := ⟨g, off + j, none⟩) (HGL.out (by omega))).trans (HC.out j hj))).mono ?_
            rintro e8 w8 ⟨rfl, hb8⟩
            have rS8 := rS.below hb8 rS.lt
            have hbel8 := hbel.trans (hb8.mono hbel.size)
            have hs8 := hb8.size
            clear hb8 hbel rS
            have hsum : (bs (sumL b)).size = 32 := by rw [bs_size, sumL_length]
            have HSum : Hid (sumL b = sumB (chain HW (blkTo b (nb b)))) := rfl
            generalize chain HW (blkTo b (nb b)) = S at *
            generalize sumL b = T at *
            go_wp2_with (first
              | (with_reducible (show wpList _ _ _ (⟨_, Op.alloc 24, _, _, _, _⟩ :: _) _ _)
                 refine alloc_row rfl 24 rfl (bs z32) (by kernel_rfl) ?_)
              | (with_reducible (show wpList _ _ _ (⟨_, Op.store 24 _ _, _, _, _, _⟩ :: _) _ _)
                 refine store_new (w := w8) (by rfl) 24 _ _ (by rfl) w8.heap.size (bs T) (by rfl) (by rfl) 24 (bs z32) (by rfl) 32 (by kernel_rfl) (by rfl) hsum (bs_one _) ?_))
            go_loopw [11] (fun v wr => ∃ j : Nat, j ≤ 32 ∧ v = .int .i64 (j : Int) ∧ Row wr w8.heap.size 24 (bs T) ∧ Row wr (w6.heap.size + 1) 31 (ws S) ∧ Below w.heap.size w wr)
              (fun v _ => 32 - (intOf v).toNat)
            case atStart => exact ⟨0, Nat.zero_le _, rfl, Row.new _ _ _, rS8.alloc _, hbel8.alloc hbel8.size _⟩
            case round =>
              clear rS8 hbel8
              obtain ⟨j, hj, rfl, rT, rS, hbel⟩ := hrel
              by_cases hj32 : j < 32
              · have ct := rT.cellB (j := j) (by rw [HSum.out, sumB_length]; exact hj32)
                have cs := rS.cellW (j := j / 4) (by rw [hcl.out]; omega)
                have hgt : gb T j = byteOf (gw S (j / 4)) (j % 4) := by
                  unfold gb
                  rw [HSum.out, sumB_get _ j hj32]
                  rfl
                rw [hgt, ← v8_byteOf, ← wsr] at ct
                clear hgt
                generalize gw S (j / 4) = x at *
                have hq : ((j : Int) / 4).toNat = j / 4 := by omega
                have hq0 : (0 : Int) ≤ (j : Int) / 4 ∧ (j : Int) / 4 < 8 := by omega
                have hr0 : (0 : Int) ≤ (j : Int) % 4 ∧ (j : Int) % 4 < 4 := by omega
                have hw1 : IntKind.i64.wrap (8 * ((j : Int) % 4)) = 8 * ((j : Int) % 4) := by rw [IntKind.wrap_i64]; omega
                have hw2 : IntKind.i64.wrap (24 - 8 * ((j : Int) % 4)) = 24 - 8 * ((j : Int) % 4) := by rw [IntKind.wrap_i64]; omega
                have hsn : (0 : Int) ≤ 24 - 8 * ((j : Int) % 4) := by omega
                have hl2 : (0 : Int) ≤ (j : Int) ∧ (j : Int) < 32 := by omega
                go_wp2
                go_quiet (fail)
                go_wp2
                exact ⟨⟨j + 1, by omega, by go_num, rT, rS, below_drewN hbel _⟩, by simp only [intOf]; omega⟩
              · obtain rfl : j = 32 := by omega
                go_wp2
                go_ret
                exact ⟨rfl, hbel⟩
end Go.Proofs.Ytlhbeaoffmohlaa
