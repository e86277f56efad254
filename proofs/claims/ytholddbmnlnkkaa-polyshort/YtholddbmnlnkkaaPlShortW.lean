/-
  PolyShort's walk.
-/
import Derived.Test.YtholddbmnlnkkaaPlLawP
namespace Go.Proofs.Ytholddbmnlnkkaa
open Go Go.RowKit

/-- The parts' numbers, added up. -/
def sumP (b : List By) : Nat → Nat
  | 0 => 0
  | i + 1 => sumP b i + partN (partAt b i)
theorem partAt_length (b : List By) (i : Nat) : (partAt b i).length = min 16 (b.length - 16 * i) := by
  unfold partAt
  rw [List.length_take, List.length_drop]
theorem partN_lt2 (b : List By) : partN b < 2 * 256 ^ b.length := by
  unfold partN leN
  have := leK_lt b b.length
  omega
theorem acc_short (b : List By) (h : b.length ≤ 31) : ∀ i, i ≤ np b.length → accW 1 (partsTo b i) = sumP b i ∧ sumP b i < PP := by
  have p0 : partN (partAt b 0) < 680564733841876926926749214863536422912 := partN_lt _ (by rw [partAt_length]; omega)
  have p1 : partN (partAt b 1) < 2658455991569831745807614120560689152 := by
    refine Nat.lt_of_lt_of_le (partN_lt2 _) ?_
    have h2 : (256 : Nat) ^ (partAt b 1).length ≤ 256 ^ 15 := Nat.pow_le_pow_right (by omega) (by rw [partAt_length]; omega)
    have h3 : (256 : Nat) ^ 15 = 1329227995784915872903807060280344576 := by decide
    omega
  have n2 : np b.length ≤ 2 := by unfold np; omega
  intro i hi
  have e1 : sumP b 1 = partN (partAt b 0) := by simp [sumP]
  have e2 : sumP b 2 = partN (partAt b 0) + partN (partAt b 1) := by simp [sumP]
  have l1 : sumP b 1 < PP := by rw [e1]; unfold PP; omega
  have l2 : sumP b 2 < PP := by rw [e2]; unfold PP; omega
  have a1 : accW 1 (partsTo b 1) = sumP b 1 := by
    rw [partsTo_succ, accW_snoc, show partsTo b 0 = [] from rfl, show accW 1 [] = 0 from rfl, show (toW (partN (partAt b 0))).1 = w26 (partN (partAt b 0)) from rfl, V5_w26 _ (by omega), Nat.mul_one, Nat.zero_add, ← e1]
    exact Nat.mod_eq_of_lt l1
  rcases (show i = 0 ∨ i = 1 ∨ i = 2 by omega) with rfl | rfl | rfl
  · exact ⟨rfl, by show 0 < PP; decide⟩
  · exact ⟨a1, l1⟩
  · refine ⟨?_, l2⟩
    rw [partsTo_succ, accW_snoc, a1, show (toW (partN (partAt b 1))).1 = w26 (partN (partAt b 1)) from rfl, V5_w26 _ (by omega), Nat.mul_one, e1, ← e2]
    exact Nat.mod_eq_of_lt l2
theorem rN_one {key : List By} (h0 : gb key 0 = 1) (h : ∀ i, 0 < i → i < 16 → gb key i = 0) : rN key = 1 := by
  unfold rN
  rw [leK_congr (b := key1) 16 (fun i hi => ?_)]
  · decide +kernel
  · rw [clL_get _ _ hi]
    unfold clB
    by_cases hz : i = 0
    · subst hz
      rw [if_neg (by decide), if_neg (by decide), h0]
      rfl
    · rw [h i (by omega) hi]
      have e : gb key1 i = 0 := by
        unfold gb key1
        rw [List.getElem?_cons, if_neg hz, List.getElem?_replicate]
        split <;> rfl
      rw [e]
      split
      · rfl
      · split <;> rfl
theorem tag_short {key half b : List By} (hb : b.length ≤ 31) (hr : rN key = 1) (hs : sN key = leK half 16) : tagL key b = by16 (leK half 16 + sumP b (np b.length)) := by
  unfold tagL tagN
  rw [hr, (acc_short b hb _ (Nat.le_refl _)).1, hs]
  apply by16_mod
  rw [Nat.mod_mod, Nat.add_comm]
/-- One part more. -/
theorem short_step (v x p : Nat) (h : x % 340282366920938463463374607431768211456 = p % 340282366920938463463374607431768211456) (part : List By) (hx : leK part 16 = x) : by16 (sumK (by16 v) part 16) = by16 (v + p) := by
  unfold sumK
  rw [leK_by16 _ 16 (Nat.le_refl _), hx]
  apply by16_mod
  rw [show (256 : Nat) ^ 16 = 340282366920938463463374607431768211456 by decide, Nat.mod_add_mod, Nat.add_mod, h, ← Nat.add_mod]
theorem part_full {b : List By} {i : Nat} (h : (partAt b i).length = 16) {ps : List By} (hp : ∀ t, t < 16 → gb ps t = gb (partAt b i) t) : leK ps 16 % 340282366920938463463374607431768211456 = partN (partAt b i) % 340282366920938463463374607431768211456 := by
  rw [leK_congr 16 hp]
  unfold partN leN
  rw [h, show (256 : Nat) ^ 16 = 340282366920938463463374607431768211456 by decide, Nat.add_mod_right]
theorem part_short {b : List By} {i m : Nat} (h : (partAt b i).length = m) (hm : m < 16) {ps : List By} (hl : ps.length = 16) (hp : ∀ t, gb ps t = if t < m then gb (partAt b i) t else 0) : leK (ps.set m 1) 16 = partN (partAt b i) := by
  rw [leK_marked (ps.set m 1) (partAt b i) ?_ ?_ ?_ 16, if_neg (by omega)]
  · intro t ht
    rw [gb_set _ (by omega), if_neg (by omega), hp t, if_pos (by omega)]
  · rw [gb_set _ (by omega), if_pos (by omega)]
  · intro t ht
    rw [gb_set _ (by omega), if_neg (by omega), hp t, if_neg (by omega)]

theorem gb_key1 (j : Nat) : gb key1 j = if j = 0 then 1 else 0 := by
  unfold gb key1
  rw [List.getElem?_cons]
  split
  · rfl
  · rw [List.getElem?_replicate]
    split <;> rfl

set_option maxRecDepth 20000 in
set_option maxHeartbeats 20000000 in
theorem short_walk (half : List By) (hh : half.length = 16) (q : SL) (w : World) (hq : q.Ok w) (hl : q.len ≤ 140737488355328) :
    Calls Try.prog 6 #[.agg (bs half), .slice q.a q.len q.cap] w fun e w' => e = .returned (.bool true) ∧ Below w.heap.size w w' := by
  have HH := veil hh
  have HQ := veil hq
  have hhs : (bs half).size = 16 := by rw [bs_size, hh]
  clear hh hq
  go_enter Try.func6, Try.ntmps6
  go_wp2_with fail
  obtain ⟨w0, hw0⟩ : ∃ w0, w0 = w.alloc (.cells (bs half) 25) := ⟨_, rfl⟩
  have rh : Row w0 w.heap.size 25 (bs half) := by rw [hw0]; exact Row.new _ _ _
  have b0 : Below w.heap.size w w0 := by rw [hw0]; exact (Below.refl _ w).alloc (Nat.le_refl _) _
  rw [← hw0]
  clear hw0
  refine (alive_any w0).mono ?_
  rintro e1 w1 ⟨rfl, hb1⟩
  have rh1 := rh.below hb1 rh.lt
  have b1 := b0.trans (hb1.mono b0.size)
  clear hb1 rh b0
  by_cases hbig : 31 < q.len
  · have hd : decide ((31 : Int) < (q.len : Int)) = true := by simp; omega
    go_wp2_with fail
    refine (alive_any w1).mono ?_
    rintro e2 w2 ⟨rfl, hb2⟩
    go_wp2_with fail
    go_ret
    exact ⟨rfl, b1.trans (hb2.mono b1.size)⟩
  · have hd : decide ((31 : Int) < (q.len : Int)) = false := by simp; omega
    obtain ⟨N, hN⟩ : ∃ N, N = q.len := ⟨_, rfl⟩
    have hN31 : N ≤ 31 := by omega
    have HNq := veil hN
    have hs1 := b1.size
    have hl1 := rh1.lt
    go_wp2_with (first
      | (with_reducible (show wpList _ _ _ (⟨_, Op.build 22 _, _, _, _, _⟩ :: _) _ _)
         refine build_row rfl 22 _ rfl (bs key1) (by kernel_rfl) ?_)
      | (with_reducible (show wpList _ _ _ (⟨_, Op.alloc 22, _, _, _, _⟩ :: _) _ _)
         refine alloc_row rfl 22 rfl (bs z32) (by kernel_rfl) ?_)
      | (with_reducible (show wpList _ _ _ (⟨_, Op.store 22 _ _, _, _, _, _⟩ :: _) _ _)
         refine store_new (w := w1) (by rfl) 22 _ _ (by rfl) w1.heap.size (bs key1) (by rfl) (by rfl) 22 (bs z32) (by rfl) 32 (by kernel_rfl) (by rfl) (by rfl) (bs_one _) ?_))
    go_loopw [6] (fun iv wr => ∃ (k : Nat) (ys : List By), k ≤ 16 ∧ iv = .int .i64 k ∧ Hid (ys.length = 32) ∧ Hid (∀ j, gb ys j = if 16 ≤ j ∧ j < 16 + k then gb half (j - 16) else gb key1 j) ∧ Row wr w.heap.size 25 (bs half) ∧ Row wr w1.heap.size 22 (bs ys) ∧ Below w.heap.size w wr)
      (fun iv _ => 16 - (intOf iv).toNat)
    case atStart => exact ⟨0, key1, by omega, rfl, rfl, fun j => by rw [if_neg (by omega)], rh1.alloc _, Row.new _ _ _, b1.alloc b1.size _⟩
    case round =>
      clear rh1
      obtain ⟨k, ys, hk, rfl, HY, HE, rH, rY, hbel⟩ := hrel
      by_cases h16 : k < 16
      · have hdk : decide ((k : Int) < 16) = true := by simp; omega
        have cx := rH.cellB (j := k) (by rw [HH.out]; exact h16)
        have cy := rY.cellB (j := 16 + k) (by rw [HY.out]; omega)
        have fy := rY.frozen (16 + k)
        obtain ⟨x, hxe⟩ : ∃ x, x = gb half k := ⟨_, rfl⟩
        rw [← hxe] at cx
        generalize v8 (gb ys (16 + k)) = y2 at cy
        have HX := veil hxe
        clear hxe
        go_wp2
        go_roundw
        case rel =>
          have qY := rY.set (16 + k) (.int .u8 (v8 x))
          rw [bs_set] at qY
          refine ⟨k + 1, _, by omega, by go_num, ?_, ?_, rH.other (by show w.heap.size ≠ w1.heap.size; omega) _, qY, hbel.setCell (p := ⟨w1.heap.size, 16 + k, none⟩) (by show w.heap.size ≤ w1.heap.size; omega) _⟩
          · show List.length _ = 32
            rw [List.length_set]; exact HY.out
          · intro j
            rw [gb_set _ (by rw [HY.out]; omega), HE.out j, HX.out]
            by_cases hj : 16 + k = j
            · subst hj
              rw [if_pos rfl, if_pos (by omega), show 16 + k - 16 = k by omega]
            · rw [if_neg hj]
              by_cases h2 : 16 ≤ j ∧ j < 16 + k
              · rw [if_pos h2, if_pos (by omega)]
              · rw [if_neg h2, if_neg (by omega)]
        case measure => simp [intOf]; omega
      · have hdk : decide ((k : Int) < 16) = false := by simp; omega
        rw [show k = 16 by omega] at HE
        have HRN : Hid (rN ys = 1) := show _ = _ from rN_one (by rw [HE.out, if_neg (by omega), gb_key1]; rfl) (fun i h0 hi => by rw [HE.out, if_neg (by omega), gb_key1, if_neg (by omega)])
        have HSN : Hid (sN ys = leK half 16) := show _ = _ from sN_of HY.out (fun i hi => by rw [HE.out, if_pos (by omega), show 16 + i - 16 = i by omega])
        clear HE
        generalize wr = W3 at *
        have hs3 := hbel.size
        have hl3 := rY.lt
        go_wp2_with (first
          | (with_reducible (show wpList _ _ _ (⟨some 30, Op.load 25 _, _, _, _, _⟩ :: _) _ _)
             refine load_row rfl 25 _ rfl w.heap.size rfl _ _ rH 16 5 Try.underlying25 (by kernel_rfl) hhs ?_)
          | (with_reducible (show wpList _ _ _ (⟨some 7, Op.alloc 25, _, _, _, _⟩ :: _) _ _)
             refine alloc_row rfl 25 rfl (bs z16) (by kernel_rfl) ?_)
          | (with_reducible (show wpList _ _ _ (⟨_, Op.store 25 (.tmp 7) _, _, _, _, _⟩ :: _) _ _)
             refine store_new (w := W3) (by rfl) 25 _ _ (by rfl) W3.heap.size (bs half) (by rfl) (by rfl) 25 (bs z16) (by rfl) 16 (by kernel_rfl) (by rfl) hhs (bs_one _) ?_))
        go_loopw [8] (fun av wr => ∃ (i : Nat) (zs : List By), 16 * i < N + 16 ∧ av = .int .i64 ((16 * i : Nat) : Int) ∧ Hid (zs = by16 (leK half 16 + sumP q.b i)) ∧ Row wr w1.heap.size 22 (bs ys) ∧ Row wr W3.heap.size 25 (bs zs) ∧ Below w.heap.size w wr)
          (fun av _ => N + 16 - (intOf av).toNat)
        case atStart => exact ⟨0, half, by omega, rfl, show _ = _ by rw [show sumP q.b 0 = 0 from rfl, Nat.add_zero, by16_leK half HH.out], rY.alloc _, Row.new _ _ _, hbel.alloc hbel.size _⟩
        case round =>
          clear rH rY hbel hdk
          obtain ⟨i, zs, hi, rfl, HZ, rY, rZ, hbel⟩ := hrel
          have hqw := HQ.out.below hbel
          by_cases hlt : 16 * i < N
          · have hdk : decide (((16 * i : Nat) : Int) < (q.len : Int)) = true := by simp; omega
            obtain ⟨m, hm⟩ : ∃ m, m = min 16 (N - 16 * i) := ⟨_, rfl⟩
            have hm16 : m ≤ 16 := by omega
            have hmN : 16 * i + m ≤ N := by omega
            have HM := veil hm
            have HPL : Hid ((partAt q.b i).length = m) := show _ = _ by rw [partAt_length, HQ.out.hb, ← HNq.out]; exact hm.symm
            have hq1 := veil hqw
            clear hm hqw
            generalize hG : wr = W4 at *
            clear hG
            have hs4 := hbel.size
            have hZ4 := rZ.lt
            have hY4 := rY.lt
            go_wp2_with (with_reducible (show wpList _ _ _ (⟨some 9, Op.alloc 25, _, _, _, _⟩ :: _) _ _)
                         refine alloc_row rfl 25 rfl (bs z16) (by kernel_rfl) ?_)
            go_loopw [10] (fun jv wr => ∃ (j : Nat) (ps : List By), j ≤ m ∧ jv = .int .i64 j ∧ Hid (ps.length = 16) ∧ Hid (∀ t, gb ps t = if t < j then gb (partAt q.b i) t else 0) ∧ Row wr W4.heap.size 25 (bs ps) ∧ Row wr w1.heap.size 22 (bs ys) ∧ Row wr W3.heap.size 25 (bs zs) ∧ q.Ok wr ∧ Below w.heap.size w wr)
              (fun jv _ => m - (intOf jv).toNat)
            case atStart => exact ⟨0, z16, by omega, rfl, rfl, fun t => by rw [if_neg (by omega)]; exact gb_zeros 16 t, Row.new _ _ _, rY.alloc _, rZ.alloc _, hq1.out.alloc _, hbel.alloc hbel.size _⟩
            case round =>
              clear rY rZ hbel hdk hq1
              obtain ⟨j, ps, hj, rfl, HP, HE, rP, rY, rZ, hqr, hbel⟩ := hrel
              by_cases hjm : j < m
              · have hd1 : decide ((j : Int) < 16) = true := by simp; omega
                have hd2 : decide (((16 * i : Nat) : Int) + (j : Int) < (q.len : Int)) = true := by simp; omega
                have e := hqr.at_ (by omega)
                have cx := hqr.cell (16 * i + j) (by omega)
                rw [show q.off + (16 * i + j) = q.off + (16 * i + j) from rfl, show gb q.b (16 * i + j) = gb (partAt q.b i) j by unfold partAt; rw [gb_cut _ _ _ _ (by omega)]] at cx
                obtain ⟨x, hxe⟩ : ∃ x, x = gb (partAt q.b i) j := ⟨_, rfl⟩
                rw [← hxe] at cx
                have cz := rP.cellB (j := j) (by rw [HP.out]; omega)
                have fz := rP.frozen j
                generalize v8 (gb ps j) = y1 at cz
                have HX := veil hxe
                have HQR := veil hqr
                have hb2 : (0 : Int) ≤ (16 * i : Nat) + (j : Int) ∧ ((16 * i : Nat) : Int) + (j : Int) < (q.len : Int) := by omega
                clear hxe hqr
                rw [e]
                go_wp2
                go_roundw
                case rel =>
                  have qP := rP.set j (.int .u8 (v8 x))
                  rw [bs_set] at qP
                  have kb := hbel.setCell (p := ⟨W4.heap.size, j, none⟩) (by show w.heap.size ≤ W4.heap.size; omega) (.int .u8 (v8 x))
                  refine ⟨j + 1, _, by omega, by go_num, ?_, ?_, qP, rY.other (by show w1.heap.size ≠ W4.heap.size; omega) _, rZ.other (by show W3.heap.size ≠ W4.heap.size; omega) _, HQ.out.below kb, kb⟩
                  · show List.length _ = 16
                    rw [List.length_set]; exact HP.out
                  · intro t
                    rw [gb_set _ (by rw [HP.out]; omega), HE.out t]
                    by_cases ht : j = t
                    · subst ht
                      rw [if_pos rfl, if_pos (by omega), HX.out]
                    · rw [if_neg ht]
                      by_cases h2 : t < j
                      · rw [if_pos h2, if_pos (by omega)]
                      · rw [if_neg h2, if_neg (by omega)]
                case measure => simp [intOf]; omega
              · rw [show j = m by omega] at HE
                have HZL : Hid (zs.length = 16) := show _ = _ by rw [HZ.out, by16_length]
                have hzs : (bs zs).size = 16 := by rw [bs_size, HZL.out]
                have hps : (bs ps).size = 16 := by rw [bs_size, HP.out]
                have hmm := HM.out
                clear hqr
                generalize wr = W5 at *
                by_cases hm6 : m = 16
                · have hd1 : decide ((j : Int) < 16) = false := by simp; omega
                  have hd3 : decide ((q.len : Int) - ((16 * i : Nat) : Int) < 16) = false := by simp; omega
                  have HST : Hid (leK ps 16 % 340282366920938463463374607431768211456 = partN (partAt q.b i) % 340282366920938463463374607431768211456) := show _ = _ from part_full (by rw [HPL.out]; exact hm6) (fun t ht => by rw [HE.out t, if_pos (by omega)])
                  clear HE hmm
                  go_wp2_with (first
                    | (with_reducible (show wpList _ _ _ (⟨some 67, Op.load 25 _, _, _, _, _⟩ :: _) _ _)
                       refine load_row rfl 25 _ rfl W3.heap.size rfl _ _ rZ 16 5 Try.underlying25 (by kernel_rfl) hzs ?_)
                    | (with_reducible (show wpList _ _ _ (⟨some 68, Op.load 25 _, _, _, _, _⟩ :: _) _ _)
                       refine load_row rfl 25 _ rfl W4.heap.size rfl _ _ rP 16 5 Try.underlying25 (by kernel_rfl) hps ?_))
                  refine (lawSum_any zs ps HZL.out HP.out W5).mono ?_
                  rintro e5 w5 ⟨rfl, hb5⟩
                  rw [HZ.out, short_step _ _ _ HST.out _ rfl, Nat.add_assoc, show sumP q.b i + partN (partAt q.b i) = sumP q.b (i + 1) from rfl]
                  have kY := rY.below hb5 rY.lt
                  have kZ := rZ.below hb5 rZ.lt
                  have kb := hbel.trans (hb5.mono hbel.size)
                  clear hb5
                  have hbl : (bs (by16 (leK half 16 + sumP q.b (i + 1)))).size = 16 := by rw [bs_size, by16_length]
                  go_wp2_with (with_reducible (show wpList _ _ _ (⟨_, Op.store 25 (.tmp 7) _, _, _, _, _⟩ :: _) _ _)
                               refine store_row rfl 25 _ _ rfl W3.heap.size (bs (by16 (leK half 16 + sumP q.b (i + 1)))) rfl rfl _ _ kZ 16 (by kernel_rfl) hzs hbl (bs_one _) ?_)
                  go_roundw
                  case rel => exact ⟨i + 1, _, by omega, by go_num, rfl, kY.putOther (by omega) _, kZ.put _, bSetRow kb (by omega) _⟩
                  case measure => simp only [intOf]; omega
                · have hd1 : decide ((j : Int) < 16) = true := by simp; omega
                  have hd2 : decide (16 * (i : Int) + (j : Int) < (q.len : Int)) = false := by simp; omega
                  have hd3 : decide ((q.len : Int) - 16 * (i : Int) < 16) = true := by simp; omega
                  have hmq : m = q.len - 16 * i := by omega
                  have hp7 : (0 : Int) ≤ (q.len : Int) - 16 * (i : Int) ∧ (q.len : Int) - 16 * (i : Int) < 16 := by omega
                  have hq7 : ((q.len : Int) - 16 * (i : Int)).toNat = q.len - 16 * i := by omega
                  have cz := rP.cellB (j := q.len - 16 * i) (by rw [HP.out]; omega)
                  have fz := rP.frozen (q.len - 16 * i)
                  generalize v8 (gb ps (q.len - 16 * i)) = y1 at cz
                  have HST : Hid (leK (ps.set (q.len - 16 * i) 1) 16 % 340282366920938463463374607431768211456 = partN (partAt q.b i) % 340282366920938463463374607431768211456) := show _ = _ by rw [← hmq, part_short HPL.out (by omega) HP.out HE.out]
                  have qP := rP.set (q.len - 16 * i) (.int .u8 (v8 1))
                  rw [bs_set, show v8 1 = 1 by decide] at qP
                  have qY := rY.other (a := ⟨W4.heap.size, q.len - 16 * i, none⟩) (by show w1.heap.size ≠ W4.heap.size; omega) (.int .u8 1)
                  have qZ := rZ.other (a := ⟨W4.heap.size, q.len - 16 * i, none⟩) (by show W3.heap.size ≠ W4.heap.size; omega) (.int .u8 1)
                  have kb0 := hbel.setCell (p := ⟨W4.heap.size, q.len - 16 * i, none⟩) (by show w.heap.size ≤ W4.heap.size; omega) (.int .u8 1)
                  have hp2 : ((ps.set (q.len - 16 * i) 1)).length = 16 := by rw [List.length_set]; exact HP.out
                  have hps2 : (bs (ps.set (q.len - 16 * i) 1)).size = 16 := by rw [bs_size, hp2]
                  have HP2 := veil hp2
                  clear HE hmm hmq hp2
                  go_wp2_with (first
                    | (with_reducible (show wpList _ _ _ (⟨some 67, Op.load 25 _, _, _, _, _⟩ :: _) _ _)
                       refine load_row rfl 25 _ rfl W3.heap.size rfl _ _ qZ 16 5 Try.underlying25 (by kernel_rfl) hzs ?_)
                    | (with_reducible (show wpList _ _ _ (⟨some 68, Op.load 25 _, _, _, _, _⟩ :: _) _ _)
                       refine load_row rfl 25 _ rfl W4.heap.size rfl _ _ qP 16 5 Try.underlying25 (by kernel_rfl) hps2 ?_))
                  refine (lawSum_any zs (ps.set (q.len - 16 * i) 1) HZL.out HP2.out _).mono ?_
                  rintro e5 w5 ⟨rfl, hb5⟩
                  rw [HZ.out, short_step _ _ _ HST.out _ rfl, Nat.add_assoc, show sumP q.b i + partN (partAt q.b i) = sumP q.b (i + 1) from rfl]
                  have kY := qY.below hb5 qY.lt
                  have kZ := qZ.below hb5 qZ.lt
                  have kb := kb0.trans (hb5.mono kb0.size)
                  clear hb5
                  have hbl : (bs (by16 (leK half 16 + sumP q.b (i + 1)))).size = 16 := by rw [bs_size, by16_length]
                  go_wp2_with (with_reducible (show wpList _ _ _ (⟨_, Op.store 25 (.tmp 7) _, _, _, _, _⟩ :: _) _ _)
                               refine store_row rfl 25 _ _ rfl W3.heap.size (bs (by16 (leK half 16 + sumP q.b (i + 1)))) rfl rfl _ _ kZ 16 (by kernel_rfl) hzs hbl (bs_one _) ?_)
                  go_roundw
                  case rel => exact ⟨i + 1, _, by omega, by go_num, rfl, kY.putOther (by omega) _, kZ.put _, bSetRow kb (by omega) _⟩
                  case measure => simp only [intOf]; omega
          · have hdk : decide (((16 * i : Nat) : Int) < (q.len : Int)) = false := by simp; omega
            have HE : Hid (np q.b.length = i) := show _ = _ by rw [HQ.out.hb, ← HNq.out]; unfold np; omega
            have HT : Hid (tagL ys q.b = zs) := show _ = _ by rw [HZ.out, ← HE.out]; exact tag_short (by rw [HQ.out.hb]; omega) HRN.out HSN.out
            have HZL : Hid (zs.length = 16) := show _ = _ by rw [HZ.out, by16_length]
            have hzs : (bs zs).size = 16 := by rw [bs_size, HZL.out]
            have hys : (bs ys).size = 32 := by rw [bs_size, HY.out]
            clear hqw
            generalize wr = w7 at *
            go_wp2_with fail
            refine held_any (S := fun V => Below w7.heap.size w7 V) (by kernel_rfl) (Below.refl _ _).drew (fun V hV => ?_)
            refine wpAnyH_take (i := 0) (v := .agg (bs ys)) rfl (by kernel_rfl) (by kernel_rfl) (by kernel_rfl) (fun _ _ _ h => h) (.inl ⟨by kernel_rfl, fun W h => run_load_row 22 _ rfl w1.heap.size (by kernel_rfl) _ _ 32 5 Try.underlying22 (by kernel_rfl) hys W (rY.below h rY.lt)⟩) hV ?_
            refine wpAnyH_take (i := 1) (v := .slice q.a q.len q.cap) rfl (by kernel_rfl) (by kernel_rfl) (by kernel_rfl) (fun _ _ _ h => h) (.inl ⟨by kernel_rfl, fun W h => by kernel_rfl⟩) hV ?_
            refine wpAnyH_take (i := 3) (v := .agg (bs zs)) rfl (by kernel_rfl) (by kernel_rfl) (by kernel_rfl) (fun _ _ _ h => h) (.inl ⟨by kernel_rfl, fun W h => run_load_row 25 _ rfl W3.heap.size (by kernel_rfl) _ _ 16 5 Try.underlying25 (by kernel_rfl) hzs W (rZ.below h rZ.lt)⟩) hV ?_
            refine H_call 2 13 #[.agg (bs ys), .slice q.a q.len q.cap] rfl (by kernel_rfl) (by kernel_rfl) (by kernel_rfl) ?_
            refine (of_any ys HY.out q V (HQ.out.below (hbel.trans (hV.mono hbel.size))) (by omega)).mono ?_
            rintro e9 V9 ⟨rfl, hb9⟩
            rw [HT.out]
            have hV9 := hV.trans (hb9.mono hV.size)
            refine ⟨_, rfl, hV9, ?_⟩
            refine wpAnyH_take (i := 4) (v := .bool true) rfl (by kernel_rfl) (by kernel_rfl) (by kernel_rfl) (fun _ _ _ h => h) (.inl ⟨by kernel_rfl, fun W h => exec_eql_self W 25 5 16 .u8 (.tmp 72) (.tmp 73) 25 (bs zs) rfl (by kernel_rfl) (by kernel_rfl) Try.underlying25 Try.underlying5 (by kernel_rfl) (by kernel_rfl) (by kernel_rfl) (fun j hj => ⟨_, bs_get _ j (by rw [HZL.out]; exact hj)⟩)⟩) hV9 ?_
            refine wpAnyH_take (i := 5) (v := .bool true) rfl (by kernel_rfl) (by kernel_rfl) (by kernel_rfl) (fun _ _ _ h => h) (.inl ⟨by kernel_rfl, fun W h => by kernel_rfl⟩) hV9 ?_
            have b9 := hbel.trans (hV9.mono hbel.size)
            refine wpAnyH_done (by kernel_rfl) ?_ _
            go_wp2
            go_ret
            exact ⟨rfl, b9⟩
end Go.Proofs.Ytholddbmnlnkkaa
