/-
  What mailcoachref02.Sum answers for what it takes.
-/
import Derived.Test.YtlicflmpakkccaaGreatDoorGv11
import Derived.Test.YtlicflmpakkccaaGreatDoorGvShaRefBlock
import Derived.Test.YtlicflmpakkccaaGreatDoorGvShaUndPlain
import Derived.Test.YtlicflmpakkccaaGreatDoorGvShaSum
namespace Go.Proofs.YtlicflmpakkccaaGreatDoor
open Go Go.RowKit

set_option maxRecDepth 20000 in
set_option maxHeartbeats 1000000 in
theorem refSum_any (g off : Nat) (a : Option Addr) (len cap : Nat) (b : List By) (w : World) (hb : b.length = len) (hl : len ≤ 1048576) (hn : a = none → len = 0 ∧ cap = 0) (ha : 0 < len → a = some ⟨g, off, none⟩) (hgl : 0 < len → g < w.heap.size) (hc : ∀ j : Nat, j < len → w.cell? ⟨g, off + j, none⟩ = some (.int .u8 (v8 (gb b j)))) :
    Calls Tryz.prog 30 #[.slice a len cap] w fun e w' => e = .returned (.tuple #[.agg (bs (sumL b)), .int .i64 0]) ∧ Below w.heap.size w w' := by
  have HB := veil hb
  have HA := veil ha
  have HN := veil hn
  have HGL := veil hgl
  have HC := veil hc
  clear hb ha hgl hc hn
  have hgt : ¬ ((1048576 : Int) < (len : Int)) := by omega
  go_enter Tryz.func30, Tryz.ntmps30
  go_wp2_with (with_reducible (show wpList _ _ _ (⟨_, Op.alloc 60, _, _, _, _⟩ :: _) _ _)
               refine alloc_row rfl 60 rfl (bs z32) (by kernel_rfl) ?_)
  refine (padded_any g off a len cap b (w.alloc (.cells (bs z32) 60)) HB.out hl HN.out HA.out (fun j hj => (((Below.refl _ w).alloc (Nat.le_refl _) _).cell (p := ⟨g, off + j, none⟩) (HGL.out (by omega))).trans (HC.out j hj))).mono ?_
  rintro e1 w1 ⟨g1, c1, rfl, ho1, hb1⟩
  have q0 : Row w1 w.heap.size 60 (bs z32) := Row.below (Row.new _ _ _) hb1 (by simp)
  have hbel1 : Below w.heap.size w w1 := ((Below.refl _ w).alloc (Nat.le_refl _) _).trans (hb1.mono (by simp))
  have hlo1 := ho1.lt
  rw [World.size_alloc] at hlo1 ho1
  have HO1 := veil ho1
  clear hb1 ho1
  obtain ⟨N, hN⟩ : ∃ N, N = 64 * nb b := ⟨_, rfl⟩
  rw [← hN] at HO1 ⊢
  have hNl : N ≤ 1048700 := by
    have := padL_length b
    have h2 := nb_mul b
    have h3 := padZ_le b.length
    have := HB.out
    omega
  have HNN := veil hN
  have hs1 := hbel1.size
  have hq0 := q0.lt
  clear hN
  go_wp2_with fail
  refine (refBegin_any w1).mono ?_
  rintro e7 w7 ⟨rfl, hw⟩
  rw [hw]
  clear hw w7
  go_wp2_with (first
    | (with_reducible (show wpList _ _ _ (⟨_, Op.store 82 _ _, _, _, _, _⟩ :: _) _ _)
       refine store_new (w := w1.alloc (.cells (ws HW) 82)) rfl 82 _ _ rfl (w1.heap.size + 1) (ws HW) rfl rfl _ _ (by simp) 8 (by kernel_rfl) (by rfl) (by rw [ws_size, HW_length]) (ws_one _) ?_))
  have HO7 : Hid (OwnB ((w1.alloc (.cells (ws HW) 82)).alloc (.cells (ws HW) 82)) (w.heap.size + 1) g1 N c1 (padL b)) := HO1.out.below (((Below.refl _ w1).alloc (Nat.le_refl _) _).alloc (by simp) _)
  go_loopw [6] (fun v wr => ∃ i A : Nat, i ≤ nb b ∧ A = 64 * i ∧ v = .int .i64 (A : Int) ∧ Row wr w.heap.size 60 (bs z32) ∧ Row wr (w1.heap.size + 1) 82 (ws (chain HW (blkTo b i))) ∧ OwnB wr (w.heap.size + 1) g1 N c1 (padL b) ∧ Below w.heap.size w wr)
    (fun v _ => N - (intOf v).toNat)
  case atStart => exact ⟨0, 0, Nat.zero_le _, rfl, rfl, (q0.alloc _).alloc _, Row.new1 _ _ _ _, HO7.out, (hbel1.alloc hbel1.size _).alloc (by simp; omega) _⟩
  case round =>
    clear HO7 HO1 hbel1 q0
    obtain ⟨i, A, hiN, hA, rfl, r0, rS, ho, hbel⟩ := hrel
    have hcl := veil (chain_length HW HW_length (blkTo b i))
    have hsz := hbel.size
    have hrS := rS.lt
    have hr0 := r0.lt
    by_cases hlt : i < nb b
    · have hAN : A + 64 ≤ N := by have := HNN.out; omega
      have HI := veil hlt
      have HAi := veil hA
      have HBk := veil (blkAt_take b i hlt)
      have hbk := veil (blkAt b i).2
      have HO := veil ho
      have HS := veil rS
      have H0 := veil r0
      have HBl := veil hbel
      have hAN' : (A : Int) < (N : Int) := by omega
      have hg3 := ho.lt.2
      generalize wr = W3 at *
      clear hA hlt ho rS hbel hiN r0
      go_wp2_with (first
        | (with_reducible (show wpList _ _ _ (⟨_, Op.alloc 74, _, _, _, _⟩ :: _) _ _)
           refine alloc_row rfl 74 rfl (bs zB) (by kernel_rfl) ?_))
      go_loopw [8] (fun v w4 => ∃ j : Nat, j ≤ 64 ∧ v = .int .i64 (j : Int) ∧ Row w4 W3.heap.size 74 (bs ((blkAt b i).1.take j ++ List.replicate (64 - j) 0)) ∧ Row w4 w.heap.size 60 (bs z32) ∧ Row w4 (w1.heap.size + 1) 82 (ws (chain HW (blkTo b i))) ∧ OwnB w4 (w.heap.size + 1) g1 N c1 (padL b) ∧ Below w.heap.size w w4)
        (fun v _ => 64 - (intOf v).toNat)
      case atStart => exact ⟨0, Nat.zero_le _, rfl, Row.new _ _ _, H0.out.alloc _, HS.out.alloc _, HO.out.below ((Below.refl _ _).alloc (Nat.le_refl _) _), HBl.out.alloc HBl.out.size _⟩
      case round =>
        clear HS HO HBl H0
        obtain ⟨j, hj, rfl, rB, r0, rS, ho, hbel⟩ := hrel
        have hlo := ho.lt
        by_cases hj64 : j < 64
        · have cb := ho.cell (j := A + j) (by omega)
          have hgb : (blkAt b i).1[j]? = some (gb (padL b) (A + j)) := by
            rw [HBk.out, ← HAi.out, List.getElem?_take_of_lt hj64, List.getElem?_drop]
            unfold gb
            rw [List.getElem?_eq_getElem (by rw [ho.len]; omega)]
            rfl
          have hst := veil (fill_set2 (blkAt b i).1 0 j 64 (by rw [hbk.out]; exact hj64) hj64 _ hgb)
          obtain ⟨v, hv⟩ : ∃ v, wr.cell? ⟨W3.heap.size, j, none⟩ = some v := ⟨_, rB.cellB (by simp [hbk.out]; omega)⟩
          have fB := rB.frozen j
          clear hgb
          generalize gb (padL b) (A + j) = x at *
          have hw1 : IntKind.i64.wrap ((A : Int) + (j : Int)) = (A : Int) + (j : Int) := by rw [IntKind.wrap_i64]; omega
          have hq1 : ((A : Int) + (j : Int)).toNat = A + j := by omega
          have hl1 : (0 : Int) ≤ (A : Int) + (j : Int) ∧ (A : Int) + (j : Int) < (N : Int) := by omega
          have hl2 : (0 : Int) ≤ (j : Int) ∧ (j : Int) < 64 := by omega
          have HO := veil ho
          clear ho
          go_wp2
          refine ⟨⟨j + 1, by omega, by go_num, ?_, r0.other (by show w.heap.size ≠ W3.heap.size; omega) _, rS.other (by show w1.heap.size + 1 ≠ W3.heap.size; omega) _, HO.out.other (by omega) _ _, hbel.setCell (p := ⟨W3.heap.size, j, none⟩) (by show w.heap.size ≤ W3.heap.size; omega) _⟩, by simp only [intOf]; omega⟩
          have := rB.set j (.int .u8 (v8 x))
          rw [bs_set, hst.out] at this
          exact this
        · obtain rfl : j = 64 := by omega
          rw [List.take_of_length_le (by rw [hbk.out]; exact Nat.le_refl _), Nat.sub_self, List.replicate_zero, List.append_nil] at rB
          have HO := veil ho
          clear ho
          generalize wr = W4 at *
          go_wp2_with (first
            | (with_reducible (show wpList _ _ _ (⟨_, Op.load 82 _, _, _, _, _⟩ :: _) _ _)
               refine load_row rfl 82 _ rfl (w1.heap.size + 1) rfl _ _ rS 8 76 Tryz.underlying82 (by kernel_rfl) (by rw [ws_size, hcl.out]) ?_)
            | (with_reducible (show wpList _ _ _ (⟨_, Op.load 74 _, _, _, _, _⟩ :: _) _ _)
               refine load_row rfl 74 _ rfl W3.heap.size rfl _ _ rB 64 5 Tryz.underlying74 (by kernel_rfl) (by rw [bs_size, hbk.out]) ?_))
          refine (refBlock_any (chain HW (blkTo b i)) (blkAt b i).1 hcl.out hbk.out W4).mono ?_
          rintro e5 w5 ⟨rfl, hb5⟩
          have k5 := rS.below hb5 rS.lt
          have k0 := r0.below hb5 r0.lt
          have HO5 := veil (HO.out.below hb5)
          have HB5 := veil (hbel.trans (hb5.mono hbel.size))
          clear hb5 HO hbel rS rB r0
          have hb64 : IntKind.i64.wrap ((A : Int) + 64) = (A : Int) + 64 := by rw [IntKind.wrap_i64]; omega
          go_wp2_with (first
            | (with_reducible (show wpList _ _ _ (⟨_, Op.store 82 _ _, _, _, _, _⟩ :: _) _ _)
               refine store_row rfl 82 _ _ rfl (w1.heap.size + 1) (ws (furtherL (chain HW (blkTo b i)) KW (blkAt b i).1)) rfl rfl _ _ k5 8 (by kernel_rfl) (by rw [ws_size, hcl.out]) (by rw [ws_size, furtherL_length]) (ws_one _) ?_))
          refine ⟨⟨i + 1, A + 64, by have := HI.out; omega, by have := HAi.out; omega, by go_num, k0.putOther (by omega) _, ?_, HO5.out.putOther (by omega) _, bSetRow HB5.out (by omega) _⟩, by simp only [intOf]; omega⟩
          rw [blkTo_succ, chain_snoc]
          exact k5.put _
    · have hi : i = nb b := by omega
      subst hi
      have hAN : A = N := by have := HNN.out; omega
      subst hAN
      generalize wr = W3 at *
      clear ho hlt hA
      have HSum : Hid (sumL b = sumB (chain HW (blkTo b (nb b)))) := rfl
      generalize chain HW (blkTo b (nb b)) = S at *
      go_wp2_with (first
        | (with_reducible (show wpList _ _ _ (⟨_, Op.alloc 60, _, _, _, _⟩ :: _) _ _)
           refine alloc_row rfl 60 rfl (bs z32) (by kernel_rfl) ?_))
      go_loopw [10] (fun v wr => ∃ j : Nat, j ≤ 32 ∧ v = .int .i64 (j : Int) ∧ Row wr W3.heap.size 60 (bs ((sumB S).take j ++ List.replicate (32 - j) 0)) ∧ Row wr w.heap.size 60 (bs z32) ∧ Row wr (w1.heap.size + 1) 82 (ws S) ∧ Below w.heap.size w wr)
        (fun v _ => 32 - (intOf v).toNat)
      case atStart => exact ⟨0, Nat.zero_le _, rfl, Row.new _ _ _, r0.alloc _, rS.alloc _, hbel.alloc hbel.size _⟩
      case round =>
        clear rS r0 hbel
        obtain ⟨j, hj, rfl, rT, r0, rS, hbel⟩ := hrel
        by_cases hlt : j < 32
        · obtain ⟨q, r, hr, rfl⟩ : ∃ q r, r < 4 ∧ j = 4 * q + r := ⟨j / 4, j % 4, by omega, by omega⟩
          have c0 := rS.cellW (j := q) (by rw [hcl.out]; omega)
          have hu0 := u_nn (gw S q)
          have hu1 := u_le (gw S q)
          obtain ⟨v, hv⟩ : ∃ v, wr.cell? ⟨W3.heap.size, 4 * q + r, none⟩ = some v := ⟨_, rT.cellB (by simp [sumB_length]; omega)⟩
          have f2 := rT.frozen (4 * q + r)
          have e1 : (4 * (q : Int) + (r : Int)) / 4 = (q : Int) := by omega
          have e2 : (4 * (q : Int) + (r : Int)) % 4 = (r : Int) := by omega
          go_wp2
          go_roundw
          case rel =>
            have ew : u (gw S q) / 2 ^ (24 - 8 * r) % 256 = v8 (byteOf (gw S q) r) := by rw [wsr]; exact v8_byteOf _ _
            rw [ew]
            refine ⟨4 * q + r + 1, by omega, by go_num, ?_, r0.other (by show w.heap.size ≠ W3.heap.size; omega) _, rS.other (by show w1.heap.size + 1 ≠ W3.heap.size; omega) _, hbel.setCell (p := ⟨W3.heap.size, 4 * q + r, none⟩) (by show w.heap.size ≤ W3.heap.size; omega) _⟩
            have := rT.set (4 * q + r) (.int .u8 (v8 (byteOf (gw S q) r)))
            rw [bs_set, fill_set (sumB S) 0 (4 * q + r) 32 (sumB_length S) hlt _ (by rw [sumB_get S _ hlt, show (4 * q + r) / 4 = q by omega, show (4 * q + r) % 4 = r by omega])] at this
            exact this
          case measure => simp [intOf]; omega
        · obtain rfl : j = 32 := by omega
          have r3 : Row wr W3.heap.size 60 (bs (sumB S)) := by
            have := rT
            rw [List.take_of_length_le (by rw [sumB_length]; omega)] at this
            simpa using this
          clear rT
          go_wp2_with (first
            | (with_reducible (show wpList _ _ _ (⟨_, Op.load 60 _, _, _, _, _⟩ :: _) _ _)
               refine load_row rfl 60 _ rfl W3.heap.size rfl _ _ r3 32 5 Tryz.underlying60 (by kernel_rfl) (by rw [bs_size, sumB_length]) ?_)
            | (with_reducible (show wpList _ _ _ (⟨_, Op.store 60 _ _, _, _, _, _⟩ :: _) _ _)
               refine store_row rfl 60 _ _ rfl w.heap.size (bs (sumB S)) rfl rfl _ _ r0 32 (by kernel_rfl) (by rfl) (by rw [bs_size, sumB_length]) (bs_one _) ?_))
          refine bodyPost_ret (result_row_tmp rfl _ _ w.heap.size _ _ (r0.put _) 32 5 (.int .i64 0) rfl rfl Tryz.underlying60 (by kernel_rfl) (by rw [bs_size, sumB_length])) rfl ⟨by rw [HSum.out], bSetRow hbel (Nat.le_refl _) _⟩
end Go.Proofs.YtlicflmpakkccaaGreatDoor
