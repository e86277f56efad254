/-
  What mailcoachref05.Tag answers.
-/
import Derived.Test.YtholddbmnlnkkaaPlRefL
namespace Go.Proofs.Ytholddbmnlnkkaa
open Go Go.RowKit

theorem builtinW {P : Program} {ops : Array Oper} {rest : List Oper} {o : Oper} {a : Act} {w : World} {Q : Exit → Act → World → Prop} (hgd : o.guard = none) (v : Value)
    (he : (execOp a.eval o).run P w = .ok (.value v) w) (h : wpList P ops Q rest (a.put o.dst v) w) : wpList P ops Q (o :: rest) a w :=
  wpList_plain hgd fun _ hK => by
    unfold Oper.wp
    rw [he]
    exact hK _ _ h
theorem acc_lt (r : Nat) (xs : List Wn) : accW r xs < PP := by
  rcases List.eq_nil_or_concat xs with rfl | ⟨ys, y, rfl⟩
  · show 0 < PP
    decide
  · rw [List.concat_eq_append, accW_snoc]
    exact Nat.mod_lt _ (by decide)
theorem dig_le (v k i : Nat) : gn (dig v k) i ≤ 255 := by
  have := dig_lt v k i
  omega

set_option maxRecDepth 20000 in
set_option maxHeartbeats 4000000 in
theorem refTag_any (key : List By) (hk : key.length = 32) (q : SL) (w : World) (hq : q.Ok w) (hl : q.len ≤ 4194304) :
    Calls Try.prog 9 #[.agg (bs key), .slice q.a q.len q.cap] w fun e w' => e = .returned (.tuple #[.agg (bs (tagL key q.b)), .int .i64 0]) ∧ Below w.heap.size w w' := by
  obtain ⟨i0, hi, hz0, hz1, hz2⟩ := info_parts (P := Try.prog) (e := 37) (z := .int .u64 0) (size := 1) (bytes := 8) (by kernel_rfl)
  have HK := veil hk
  have HQ := veil hq
  have hks : (bs key).size = 32 := by rw [bs_size, hk]
  have hgt : decide ((4194304 : Int) < (q.len : Int)) = false := by simp; omega
  have rk0 : Row ((w.alloc (.cells (bs key) 22)).alloc (.cells (bs z16) 25)) w.heap.size 22 (bs key) := (Row.new _ _ _).alloc _
  clear hk hq
  go_enter Try.func9, Try.ntmps9
  go_wp2_with (first
    | (with_reducible (show wpList _ _ _ (⟨_, Op.alloc 25, _, _, _, _⟩ :: _) _ _)
       refine alloc_row rfl 25 rfl (bs z16) (by kernel_rfl) ?_)
    | (with_reducible (show wpList _ _ _ (⟨some 18, Op.load 22 _, _, _, _, _⟩ :: _) _ _)
       refine load_row rfl 22 _ rfl w.heap.size rfl _ _ rk0 32 5 Try.underlying22 (by kernel_rfl) hks ?_))
  obtain ⟨w0, hw0⟩ : ∃ w0, w0 = (w.alloc (.cells (bs key) 22)).alloc (.cells (bs z16) 25) := ⟨_, rfl⟩
  have ro : Row w0 (w.heap.size + 1) 25 (bs z16) := by rw [hw0]; exact Row.new1 _ _ _ _
  have b0 : Below w.heap.size w w0 := by rw [hw0]; exact ((Below.refl _ w).alloc (Nat.le_refl _) _).alloc (by simp) _
  have hs0 : w0.heap.size = w.heap.size + 2 := by rw [hw0]; simp
  rw [← hw0] at rk0 ⊢
  clear hw0
  clear hgt
  refine (refR_any key HK.out w0).mono ?_
  rintro e1 w1 ⟨rfl, rR, hb1⟩
  rw [hs0] at rR ⊢
  have rk1 := rk0.below hb1 rk0.lt
  have ro1 := ro.below hb1 ro.lt
  have b1 := b0.trans (hb1.mono b0.size)
  have hl1 := rR.lt
  clear hb1 rk0 ro b0
  go_wp2_with (with_reducible (show wpList _ _ _ (⟨_, Op.makeSlice _ _ _, _, _, _, _⟩ :: _) _ _)
               refine wpList_make_full w1 rfl _ _ 48 rfl w1.heap.size 37 i0 (.int .u64 0) 1 Try.underlying48 hi hz0 hz1 .i64 .i64 17 17 17 rfl rfl rfl rfl (by rw [hz2]; decide) (by unfold maxLen; decide) (Nat.le_refl _) ?_
               intro w2 own2 grow2)
  rw [made_vn] at own2
  have r2 : Row w2 w1.heap.size 37 (ns z17) := own_row own2
  have hb2 : Below w1.heap.size w1 w2 := (Below.refl _ w1).grown grow2 (Nat.le_refl _) (fun q e => by cases e)
  have rk2 := rk1.below hb2 rk1.lt
  have ro2 := ro1.below hb2 ro1.lt
  have rR2 := rR.below hb2 rR.lt
  have b2 := b1.trans (hb2.mono b1.size)
  clear own2 grow2 hb2 rk1 ro1 rR b1
  go_loopw [7, 8] (fun av iv wr => ∃ (i g c : Nat), 16 * i < q.len + 16 ∧ iv = .int .i64 ((16 * i : Nat) : Int) ∧ av = .slice (some ⟨g, 0, none⟩) 17 c ∧ NOk wr g 17 (dig (accW (rN key) (partsTo q.b i)) 17) ∧ Row wr w.heap.size 22 (bs key) ∧ Row wr (w.heap.size + 1) 25 (bs z16) ∧ Row wr (w.heap.size + 2 + 1) 37 (ns (dig (rN key) 17)) ∧ Below w.heap.size w wr)
    (fun _ iv _ => q.len + 16 - (intOf iv).toNat)
  case atStart =>
    refine ⟨0, w1.heap.size, 17, by omega, rfl, rfl, ?_, rk2, ro2, rR2, b2⟩
    rw [show dig (accW (rN key) (partsTo q.b 0)) 17 = z17 by
      rw [show accW (rN key) (partsTo q.b 0) = 0 from rfl]
      decide +kernel]
    exact NOk.of_row r2 rfl
  case round =>
    clear r2 rk2 ro2 rR2 b2
    obtain ⟨i, g, c, hi6, rfl, rfl, hN, rK, rO, rR, hbel⟩ := hrel
    have HN := veil hN
    have HRR := veil rR
    have HRK := veil rK
    have HRO := veil rO
    have hlR := rR.lt
    have hs := hbel.size
    have hA := acc_lt (rN key) (partsTo q.b i)
    clear hN rR rK rO
    by_cases hlt : 16 * i < q.len
    · have hdk : decide (((16 * i : Nat) : Int) < (q.len : Int)) = true := by simp; omega
      obtain ⟨m, hm⟩ : ∃ m, m = min 16 (q.len - 16 * i) := ⟨_, rfl⟩
      have hm16 : m ≤ 16 := by omega
      have hmN : 16 * i + m ≤ q.len := by omega
      have hqw := HQ.out.below hbel
      have e := hqw.at_ (by omega)
      have hcap := hqw.hcap
      have HOK := veil (part_ok hqw i m hlt hm)
      have HM := veil hm
      clear hm hqw
      rw [e]
      go_wp2_with (with_reducible (show wpList _ _ _ (⟨some 33, Op.call _, _, _, _, _⟩ :: _) _ _)
                   refine builtinW rfl (.int .i64 ((16 * i + m : Nat) : Int)) ?hmin ?_
                   case hmin => (go_simp; have := HM.out; split <;> omega))
      have hw16 : IntKind.i64.wrap (16 * (i : Int) + 16) = 16 * (i : Int) + 16 := by rw [IntKind.wrap_i64]; omega
      clear hl
      refine (refNumber_any (SL.mk (some ⟨q.g, q.off + 16 * i, none⟩) m (q.cap - 16 * i) q.g (q.off + 16 * i) (partAt q.b i)) true wr HOK.out hm16).mono ?_
      rintro e4 w4 ⟨rfl, rP, hb4⟩
      obtain ⟨p, hp⟩ : ∃ p, p = partN (partAt q.b i) := ⟨_, rfl⟩
      have hpl := HOK.out.hb
      have hpe : leN (partAt q.b i) + 256 ^ m = p := by
        rw [hp]
        unfold partN
        rw [show (partAt q.b i).length = m from hpl]
      have hpb : p < 680564733841876926926749214863536422912 := by
        rw [hp]
        exact partN_lt _ (by rw [show (partAt q.b i).length = m from hpl]; exact hm16)
      rw [if_pos rfl] at rP
      rw [show leN (SL.mk (some ⟨q.g, q.off + 16 * i, none⟩) m (q.cap - 16 * i) q.g (q.off + 16 * i) (partAt q.b i)).b + 256 ^ (SL.mk (some ⟨q.g, q.off + 16 * i, none⟩) m (q.cap - 16 * i) q.g (q.off + 16 * i) (partAt q.b i)).len = p from hpe] at rP
      have HACC : Hid (accW (rN key) (partsTo q.b (i + 1)) = (accW (rN key) (partsTo q.b i) + p) * rN key % PP) := show _ = _ by
        rw [partsTo_succ, accW_snoc, show (toW (partN (partAt q.b i))).1 = w26 (partN (partAt q.b i)) from rfl, ← hp, V5_w26 _ (by omega)]
      obtain ⟨A, hAe⟩ : ∃ A, A = accW (rN key) (partsTo q.b i) := ⟨_, rfl⟩
      rw [← hAe] at hA HACC HN
      have hr := rN_lt key
      have e17 : (256 : Nat) ^ 17 = 87112285931760246646623899502532662132736 := by decide
      have e34 : (256 : Nat) ^ 34 = 7588550360256754183279148073529370729071901715047420004889892225542594864082845696 := by decide
      have hPP : PP = 1361129467683753853853498429727072845819 := rfl
      have HV1 : Hid (nV (dig A 17) = A) := show _ = _ from nV_dig A 17 (by rw [e17]; omega)
      have HV2 : Hid (nV (dig p 17) = p) := show _ = _ from nV_dig p 17 (by rw [e17]; omega)
      have HV3 : Hid (nV (dig (A + p) 17) = A + p) := show _ = _ from nV_dig (A + p) 17 (by rw [e17]; omega)
      have HV4 : Hid (nV (dig (rN key) 17) = rN key) := show _ = _ from nV_dig (rN key) 17 (by rw [e17]; omega)
      have HV5 : Hid ((A + p) * rN key < 256 ^ 34) := show _ < _ by
        have h1 : (A + p) * rN key ≤ 2722258935367507707706996859454145691648 * 1361129467683753853853498429727072845824 := Nat.mul_le_mul (by omega) (by omega)
        rw [e34]
        omega
      have HN4 := veil (HN.out.below hb4)
      have HP4 := veil (NOk.of_row rP (dig_length _ _))
      have b4 := hbel.trans (hb4.mono hs)
      have HR4 := veil (HRR.out.below hb4 HRR.out.lt)
      have HK4 := veil (HRK.out.below hb4 HRK.out.lt)
      have HO4 := veil (HRO.out.below hb4 HRO.out.lt)
      clear rP hb4 hp hpe hpl hAe HN HRR HRK HRO hbel HOK HM e17 e34 hPP hr hA hpb
      go_wp2_with fail
      refine (refAdd_any g 17 c (dig A 17) wr.heap.size 17 17 (dig p 17) w4 HN4.out HP4.out (by omega) (by omega) (dig_le _ _) (dig_le _ _)).mono ?_
      rintro e5 w5 ⟨x5, rfl, own5, hb5⟩
      rw [HV1.out, HV2.out] at own5
      obtain ⟨g5, c5, rfl⟩ := ownN own5 (by decide)
      obtain ⟨_, _, hc5, _⟩ := own_cur own5
      have HN5 := veil ((NOk.of_own own5).cut (m := 17) (by omega))
      have b5 := b4.trans (hb5.mono b4.size)
      have HR5 := veil (HR4.out.below hb5 HR4.out.lt)
      have HK5 := veil (HK4.out.below hb5 HK4.out.lt)
      have HO5 := veil (HO4.out.below hb5 HO4.out.lt)
      have hcc5 : (17 : Int) ≤ (c5 : Int) := by omega
      clear own5 hb5 HN4 HP4 b4 HR4 HK4 HO4
      go_wp2_with fail
      refine (refMul_any g5 c5 (dig (A + p) 17) (w.heap.size + 2 + 1) 17 (dig (rN key) 17) w5 HN5.out (NOk.of_row HR5.out (dig_length _ _)) (dig_le _ _) (dig_le _ _)).mono ?_
      rintro e6 w6 ⟨x6, rfl, own6, hb6⟩
      rw [HV3.out, HV4.out] at own6
      obtain ⟨g6, c6, rfl⟩ := ownN own6 (by decide)
      obtain ⟨_, _, hc6, _⟩ := own_cur own6
      have HN6 := veil (NOk.of_own own6)
      have b6 := b5.trans (hb6.mono b5.size)
      have HR6 := veil (HR5.out.below hb6 HR5.out.lt)
      have HK6 := veil (HK5.out.below hb6 HK5.out.lt)
      have HO6 := veil (HO5.out.below hb6 HO5.out.lt)
      clear own6 hb6 HN5 b5 HR5 HK5 HO5
      go_wp2_with fail
      refine (refLeft_any g6 c6 ((A + p) * rN key) HV5.out w6 HN6.out hc6).mono ?_
      rintro e7 w7 ⟨g7, c7, rfl, hN7, hb7⟩
      rw [← HACC.out] at hN7
      have b7 := b6.trans (hb7.mono b6.size)
      have HR7 := HR6.out.below hb7 HR6.out.lt
      have HK7 := HK6.out.below hb7 HK6.out.lt
      have HO7 := HO6.out.below hb7 HO6.out.lt
      clear hb7 HN6 b6 HR6 HK6 HO6
      go_wp2
      go_roundw
      case rel => exact ⟨i + 1, g7, c7, by omega, by go_num, rfl, hN7, HK7, HO7, HR7, b7⟩
      case measure => simp only [intOf]; omega
    · have hdk : decide (16 * (i : Int) < (q.len : Int)) = false := by simp; omega
      have HE : Hid (np q.b.length = i) := show _ = _ by rw [HQ.out.hb]; unfold np; omega
      clear hl
      obtain ⟨A, hAe⟩ : ∃ A, A = accW (rN key) (partsTo q.b i) := ⟨_, rfl⟩
      rw [← hAe] at hA HN
      have hsb := sN_lt128 key HK.out
      have e17 : (256 : Nat) ^ 17 = 87112285931760246646623899502532662132736 := by decide
      have hPP : PP = 1361129467683753853853498429727072845819 := rfl
      have HV1 : Hid (nV (dig A 17) = A) := show _ = _ from nV_dig A 17 (by rw [e17]; omega)
      have HV2 : Hid (nV (dig (sN key) 17) = sN key) := show _ = _ from nV_dig (sN key) 17 (by rw [e17]; omega)
      have HT : Hid (by16 (A + sN key) = tagL key q.b) := show _ = _ by
        unfold tagL tagN
        rw [HE.out, ← hAe]
        exact by16_mod (by rw [Nat.mod_mod])
      have HSL := veil (slice_ok HRK.out 16 16 16 (by rw [HK.out]; omega) (by omega))
      clear hAe e17 hPP hA hsb HE
      go_wp2_with fail
      refine (refNumber_any _ false wr HSL.out (by show 16 ≤ 16; omega)).mono ?_
      rintro e4 w4 ⟨rfl, rP, hb4⟩
      rw [if_neg (by simp), Nat.add_zero, show leN (SL.mk (some ⟨w.heap.size, 16, none⟩) 16 16 w.heap.size 16 ((key.drop 16).take 16)).b = sN key from rfl] at rP
      have HN4 := veil (HN.out.below hb4)
      have HP4 := veil (NOk.of_row rP (dig_length _ _))
      have b4 := hbel.trans (hb4.mono hs)
      have HO4 := veil (HRO.out.below hb4 HRO.out.lt)
      clear rP hb4 HN HRR HRK HRO hbel HSL
      go_wp2_with fail
      refine (refAdd_any g 17 c (dig A 17) wr.heap.size 17 17 (dig (sN key) 17) w4 HN4.out HP4.out (by omega) (by omega) (dig_le _ _) (dig_le _ _)).mono ?_
      rintro e5 w5 ⟨x5, rfl, own5, hb5⟩
      rw [HV1.out, HV2.out] at own5
      obtain ⟨g5, c5, rfl⟩ := ownN own5 (by decide)
      have HN5 := veil (NOk.of_own own5)
      have b5 := b4.trans (hb5.mono b4.size)
      have HO5 := veil (HO4.out.below hb5 HO4.out.lt)
      have hlo := HO5.out.lt
      have hs5 := b5.size
      clear own5 hb5 HN4 HP4 b4 HO4
      go_wp2_with (with_reducible (show wpList _ _ _ (⟨some 12, Op.alloc 25, _, _, _, _⟩ :: _) _ _)
                   refine alloc_row rfl 25 rfl (bs z16) (by kernel_rfl) ?_)
      go_loopw [13] (fun iv wr => ∃ (k : Nat) (zs : List By), k ≤ 16 ∧ iv = .int .i64 k ∧ Hid (zs.length = 16) ∧ Hid (∀ j, j < k → gb zs j = byteAt (A + sN key) j) ∧ NOk wr g5 34 (dig (A + sN key) 34) ∧ Row wr (w.heap.size + 1) 25 (bs z16) ∧ Row wr w5.heap.size 25 (bs zs) ∧ Below w.heap.size w wr)
        (fun iv _ => 16 - (intOf iv).toNat)
      case atStart => exact ⟨0, z16, by omega, rfl, rfl, fun j hj => by omega, HN5.out.below ((Below.refl _ w5).alloc (Nat.le_refl _) _), HO5.out.alloc _, Row.new _ _ _, b5.alloc b5.size _⟩
      case round =>
        have hg5 := HN5.out.lt
        clear HN5 HO5 b5 hdk
        obtain ⟨k, zs, hk, rfl, HL, HD, hN, rO, rZ, hbel⟩ := hrel
        by_cases h16 : k < 16
        · have hdk : decide ((k : Int) < 16) = true := by simp; omega
          have cx := hN.cell k (by omega)
          rw [dig_get _ _ _ (by omega)] at cx
          have cz := rZ.cellB (j := k) (by rw [HL.out]; exact h16)
          have fz := rZ.frozen k
          generalize v8 (gb zs k) = y0 at cz
          obtain ⟨x, hxe⟩ : ∃ x, x = (A + sN key) / 256 ^ k % 256 := ⟨_, rfl⟩
          have hx8 : x < 256 := by rw [hxe]; exact Nat.mod_lt _ (by decide)
          rw [← hxe] at cx
          have HX : Hid ((x : Int) = v8 (byteAt (A + sN key) k)) := show _ = _ by rw [v8_byteAt, hxe]
          have hw8 : IntKind.u8.wrap (x : Int) = (x : Int) := by rw [IntKind.wrap_u8]; omega
          have hp2 : (0 : Int) ≤ (k : Int) ∧ (k : Int) < 34 := by omega
          have HNV := veil hN
          clear hxe hN
          go_wp2
          go_roundw
          case rel =>
            rw [HX.out]
            have q0 := rZ.set k (.int .u8 (v8 (byteAt (A + sN key) k)))
            rw [bs_set] at q0
            refine ⟨k + 1, _, by omega, by go_num, ?_, ?_, ⟨HNV.out.len, by simp [World.setCell]; exact HNV.out.lt, fun j hj => ?_⟩, rO.other (by show w.heap.size + 1 ≠ w5.heap.size; omega) _, q0, hbel.setCell (p := ⟨w5.heap.size, k, none⟩) (by show w.heap.size ≤ w5.heap.size; omega) _⟩
            · show List.length _ = 16
              rw [List.length_set]; exact HL.out
            · intro j hj
              rw [gb_set _ (by rw [HL.out]; exact h16)]
              split
              · rename_i h; rw [h]
              · exact HD.out j (by omega)
            · rw [World.cell?_of_block (w := wr) (heap_setCell_other wr ⟨w5.heap.size, k, none⟩ g5 _ (by show g5 ≠ w5.heap.size; omega))]
              exact HNV.out.cell j hj
          case measure => simp [intOf]; omega
        · have hdk : decide ((k : Int) < 16) = false := by simp; omega
          rw [show k = 16 by omega] at HD
          have e := by16_of HL.out HD.out
          rw [HT.out] at e
          have hsz : (bs zs).size = 16 := by rw [bs_size, HL.out]
          have HE := veil e
          clear e hN
          go_wp2_with (first
            | (with_reducible (show wpList _ _ _ (⟨some 59, Op.load 25 _, _, _, _, _⟩ :: _) _ _)
               refine load_row rfl 25 _ rfl w5.heap.size rfl _ _ rZ 16 5 Try.underlying25 (by kernel_rfl) hsz ?_)
            | (with_reducible (show wpList _ _ _ (⟨_, Op.store 25 (.tmp 4) _, _, _, _, _⟩ :: _) _ _)
               refine store_row rfl 25 _ _ rfl (w.heap.size + 1) (bs zs) rfl rfl _ _ rO 16 (by kernel_rfl) rfl hsz (bs_one _) ?_))
          refine bodyPost_ret (result_row_tmp rfl _ _ (w.heap.size + 1) _ _ (rO.put _) 16 5 (.int .i64 0) rfl rfl Try.underlying25 (by kernel_rfl) hsz) rfl ⟨by rw [HE.out], bSetRow hbel (by omega) _⟩
end Go.Proofs.Ytholddbmnlnkkaa
