/-
  PolyCleared's walk.
-/
import Derived.Test.YtholddbmnlnkkaaPlLawP
import Derived.BigRegion
namespace Go.Proofs.Ytholddbmnlnkkaa
open Go Go.RowKit

theorem xor_by (x y : By) : bits .xor .u8 (v8 x) (v8 y) = v8 (x ^^^ y) := by
  have h1 := v8_nn x
  have h2 := v8_le x
  have h3 := v8_nn y
  have h4 := v8_le y
  rw [u8_xor _ _ h1 (by omega) h3 (by omega)]
  unfold v8
  rw [BitVec.toNat_xor, Int.toNat_natCast, Int.toNat_natCast]
theorem clear_hi (a x : By) : (a ^^^ (x &&& 240#8)) &&& 15 = a &&& 15 := by
  apply BitVec.eq_of_getLsbD_eq
  intro i hi
  have h : ((240#8).getLsbD i && (15 : By).getLsbD i) = false := by
    have : ∀ i : Fin 8, ((240#8).getLsbD i.1 && (15 : By).getLsbD i.1) = false := by decide
    exact this ⟨i, hi⟩
  simp only [BitVec.getLsbD_and, BitVec.getLsbD_xor]
  revert h
  cases (240#8).getLsbD i <;> cases (15 : By).getLsbD i <;> cases a.getLsbD i <;> cases x.getLsbD i <;> decide
theorem clear_lo (a x : By) : (a ^^^ (x &&& 3#8)) &&& 252 = a &&& 252 := by
  apply BitVec.eq_of_getLsbD_eq
  intro i hi
  have h : ((3#8).getLsbD i && (252 : By).getLsbD i) = false := by
    have : ∀ i : Fin 8, ((3#8).getLsbD i.1 && (252 : By).getLsbD i.1) = false := by decide
    exact this ⟨i, hi⟩
  simp only [BitVec.getLsbD_and, BitVec.getLsbD_xor]
  revert h
  cases (3#8).getLsbD i <;> cases (252 : By).getLsbD i <;> cases a.getLsbD i <;> cases x.getLsbD i <;> decide
/-- The key with other bits where they are cleared. -/
def othB (key bits : List By) (j : Nat) : By := if j % 4 = 3 ∧ j < 16 then gb key j ^^^ (gb bits (j / 4) &&& 240#8) else if (j % 4 = 0 ∧ 0 < j) ∧ j < 16 then gb key j ^^^ (gb bits (3 + j / 4) &&& 3#8) else gb key j
theorem rN_other {key bits oth : List By} (h : ∀ j, gb oth j = othB key bits j) : rN oth = rN key := by
  unfold rN
  refine leK_congr 16 (fun i hi => ?_)
  rw [clL_get _ _ hi, clL_get _ _ hi]
  unfold clB
  rw [h i]
  by_cases h3 : i % 4 = 3
  · rw [if_pos h3, if_pos h3, show othB key bits i = gb key i ^^^ (gb bits (i / 4) &&& 240#8) from if_pos ⟨h3, hi⟩, clear_hi]
  · rw [if_neg h3, if_neg h3]
    by_cases h0 : i % 4 = 0 ∧ 0 < i
    · rw [if_pos h0, if_pos h0, show othB key bits i = gb key i ^^^ (gb bits (3 + i / 4) &&& 3#8) by unfold othB; rw [if_neg (fun e => h3 e.1), if_pos ⟨h0, hi⟩], clear_lo]
    · rw [if_neg h0, if_neg h0]
      unfold othB
      rw [if_neg (fun e => h3 e.1), if_neg (fun e => h0 e.1)]
theorem sN_same {key oth : List By} (hk : key.length = 32) (ho : oth.length = 32) (h : ∀ i, i < 16 → gb oth (16 + i) = gb key (16 + i)) : sN oth = sN key := by
  unfold sN leN
  rw [show ((oth.drop 16).take 16).length = 16 by rw [List.length_take, List.length_drop, ho]; rfl, show ((key.drop 16).take 16).length = 16 by rw [List.length_take, List.length_drop, hk]; rfl]
  exact leK_congr 16 (fun i hi => by rw [gb_cut _ _ _ _ hi, gb_cut _ _ _ _ hi, h i hi])
theorem tag_same {key oth : List By} (b : List By) (hr : rN oth = rN key) (hs : sN oth = sN key) : tagL oth b = tagL key b := by
  unfold tagL tagN
  rw [hr, hs]
theorem accW_zero (xs : List Wn) : accW 0 xs = 0 := by
  unfold accW
  have : ∀ (xs : List Wn), xs.foldl (fun a x => (a + V5 x.1) * 0 % PP) 0 = 0 := by
    intro xs
    induction xs with
    | nil => rfl
    | cons x xs ih => simpa using ih
  exact this xs
theorem tag_none {non half : List By} (b : List By) (hh : half.length = 16) (hr : rN non = 0) (hs : sN non = leK half 16) : tagL non b = half := by
  unfold tagL tagN
  rw [hr, accW_zero, Nat.zero_add, by16_mod (u := sN non % 340282366920938463463374607431768211456) (v := sN non) (Nat.mod_mod _ _), hs]
  exact by16_leK half hh
theorem rN_zero {non : List By} (h : ∀ i, i < 16 → gb non i = 0) : rN non = 0 := by
  unfold rN
  refine leK_zeros 16 _ (fun i hi => ?_)
  rw [clL_get _ _ hi]
  unfold clB
  rw [h i hi]
  split
  · rfl
  · split <;> rfl

set_option maxRecDepth 20000 in
set_option maxHeartbeats 20000000 in
theorem cleared_walk (key : List By) (hk : key.length = 32) (q : SL) (bits7 : List By) (h7 : bits7.length = 7) (w : World) (hq : q.Ok w) (hl : q.len ≤ 140737488355328) :
    Calls Try.prog 5 #[.agg (bs key), .slice q.a q.len q.cap, .agg (bs bits7)] w fun e w' => e = .returned (.bool true) ∧ Below w.heap.size w w' := by
  have HK := veil hk
  have HQ := veil hq
  have H7 := veil h7
  have hks : (bs key).size = 32 := by rw [bs_size, hk]
  clear hk hq h7
  go_enter Try.func5, Try.ntmps5
  go_wp2_with fail
  obtain ⟨w0, hw0⟩ : ∃ w0, w0 = (w.alloc (.cells (bs key) 22)).alloc (.cells (bs bits7) 34) := ⟨_, rfl⟩
  have rk : Row w0 w.heap.size 22 (bs key) := by rw [hw0]; exact (Row.new _ _ _).alloc _
  have r7 : Row w0 (w.heap.size + 1) 34 (bs bits7) := by rw [hw0]; exact Row.new1 _ _ _ _
  have b0 : Below w.heap.size w w0 := by rw [hw0]; exact ((Below.refl _ w).alloc (Nat.le_refl _) _).alloc (by simp) _
  rw [← hw0]
  clear hw0
  refine (alive_any w0).mono ?_
  rintro e1 w1 ⟨rfl, hb1⟩
  have rk1 := rk.below hb1 rk.lt
  have r71 := r7.below hb1 r7.lt
  have b1 := b0.trans (hb1.mono b0.size)
  clear hb1 rk r7 b0
  by_cases hbig : 20000 < q.len
  · have hd : decide ((20000 : Int) < (q.len : Int)) = true := by simp; omega
    go_wp2_with fail
    refine (alive_any w1).mono ?_
    rintro e2 w2 ⟨rfl, hb2⟩
    go_wp2_with fail
    go_ret
    exact ⟨rfl, b1.trans (hb2.mono b1.size)⟩
  · have hd : decide ((20000 : Int) < (q.len : Int)) = false := by simp; omega
    have hs1 := b1.size
    have hl1 := r71.lt
    have rO : Row ((w1.alloc (.cells (bs key) 22)).alloc (.cells (bs key) 22)) w1.heap.size 22 (bs key) := (Row.new _ _ _).alloc _
    have rN1 : Row ((w1.alloc (.cells (bs key) 22)).alloc (.cells (bs key) 22)) (w1.heap.size + 1) 22 (bs key) := Row.new1 _ _ _ _
    have rK2 : Row ((w1.alloc (.cells (bs key) 22)).alloc (.cells (bs key) 22)) w.heap.size 22 (bs key) := (rk1.alloc _).alloc _
    have r72 : Row ((w1.alloc (.cells (bs key) 22)).alloc (.cells (bs key) 22)) (w.heap.size + 1) 34 (bs bits7) := (r71.alloc _).alloc _
    have b2 : Below w.heap.size w ((w1.alloc (.cells (bs key) 22)).alloc (.cells (bs key) 22)) := (b1.alloc b1.size _).alloc (by have := b1.size; simp; omega) _
    have rk1' := rk1.alloc (.cells (bs key) 22)
    go_wp2_with (first
      | (with_reducible (show wpList _ _ _ (⟨some 22, Op.load 22 _, _, _, _, _⟩ :: _) _ _)
         refine load_row rfl 22 _ rfl w.heap.size rfl _ _ rk1 32 5 Try.underlying22 (by kernel_rfl) hks ?_)
      | (with_reducible (show wpList _ _ _ (⟨some 23, Op.load 22 _, _, _, _, _⟩ :: _) _ _)
         refine load_row rfl 22 _ rfl w.heap.size rfl _ _ rk1' 32 5 Try.underlying22 (by kernel_rfl) hks ?_)
      | (with_reducible (show wpList _ _ _ (⟨_, Op.alloc 22, _, _, _, _⟩ :: _) _ _)
         refine alloc_row rfl 22 rfl (bs z32) (by kernel_rfl) ?_)
      | (with_reducible (show wpList _ _ _ (⟨_, Op.store 22 (.tmp 7) _, _, _, _, _⟩ :: _) _ _)
         refine store_new (w := w1) (by rfl) 22 _ _ (by rfl) w1.heap.size (bs key) (by rfl) (by rfl) 22 (bs z32) (by rfl) 32 (by kernel_rfl) (by rfl) hks (bs_one _) ?_)
      | (with_reducible (show wpList _ _ _ (⟨_, Op.store 22 (.tmp 8) _, _, _, _, _⟩ :: _) _ _)
         refine store_new (w := w1.alloc (.cells (bs key) 22)) (by rfl) 22 _ _ (by rfl) (w1.alloc (.cells (bs key) 22)).heap.size (bs key) (by rfl) (by rfl) 22 (bs z32) (by rfl) 32 (by kernel_rfl) (by rfl) hks (bs_one _) ?_))
    go_loopw [9] (fun iv wr => ∃ (i : Nat) (zs : List By), i ≤ 4 ∧ iv = .int .i64 i ∧ Hid (zs.length = 32) ∧ Hid (∀ j, gb zs j = if j % 4 = 3 ∧ j < 4 * i then gb key j ^^^ (gb bits7 (j / 4) &&& 240#8) else gb key j) ∧ Row wr w.heap.size 22 (bs key) ∧ Row wr (w.heap.size + 1) 34 (bs bits7) ∧ Row wr w1.heap.size 22 (bs zs) ∧ Row wr (w1.heap.size + 1) 22 (bs key) ∧ Below w.heap.size w wr)
      (fun iv _ => 4 - (intOf iv).toNat)
    case atStart => exact ⟨0, key, by omega, rfl, HK, fun j => by rw [if_neg (by omega)], rK2, r72, rO, rN1, b2⟩
    case round =>
      clear rO rN1 rK2 r72 b2 rk1' rk1 r71
      obtain ⟨i, zs, hi, rfl, HL, HE, rK, rB, rO, rX, hbel⟩ := hrel
      by_cases h4 : i < 4
      · have hdk : decide ((i : Int) < 4) = true := by simp; omega
        have cx := rO.cellB (j := 4 * i + 3) (by rw [HL.out]; omega)
        have cy := rB.cellB (j := i) (by rw [H7.out]; omega)
        have fx := rO.frozen (4 * i + 3)
        rw [HE.out, if_neg (by omega)] at cx
        obtain ⟨x, hxe⟩ : ∃ x, x = gb key (4 * i + 3) := ⟨_, rfl⟩
        obtain ⟨y, hye⟩ : ∃ y, y = gb bits7 i := ⟨_, rfl⟩
        rw [← hxe] at cx
        rw [← hye] at cy
        have hand : bits .and .u8 (v8 y) 240 = v8 (y &&& 240#8) := and_by y 240#8
        have HX := veil hxe
        have HY := veil hye
        clear hxe hye
        go_wp2
        go_region
        go_wp2
        go_roundw
        case rel =>
          rw [xor_by]
          have qO := rO.set (4 * i + 3) (.int .u8 (v8 (x ^^^ (y &&& 240#8))))
          rw [bs_set] at qO
          refine ⟨i + 1, _, by omega, by go_num, ?_, ?_, rK.other (by show w.heap.size ≠ w1.heap.size; omega) _, rB.other (by show w.heap.size + 1 ≠ w1.heap.size; omega) _, qO, rX.other (by show w1.heap.size + 1 ≠ w1.heap.size; omega) _, Below.drew (hbel.setCell (p := ⟨w1.heap.size, 4 * i + 3, none⟩) (by show w.heap.size ≤ w1.heap.size; omega) _)⟩
          · show List.length _ = 32
            rw [List.length_set]; exact HL.out
          · intro j
            rw [gb_set _ (by rw [HL.out]; omega), HE.out j, HX.out, HY.out]
            by_cases hj : 4 * i + 3 = j
            · subst hj
              rw [if_pos rfl, if_pos (by omega), show (4 * i + 3) / 4 = i by omega]
            · rw [if_neg hj]
              by_cases h2 : j % 4 = 3 ∧ j < 4 * i
              · rw [if_pos h2, if_pos (by omega)]
              · rw [if_neg h2, if_neg (by omega)]
        case measure => simp [intOf]; omega
      · have hdk : decide ((i : Int) < 4) = false := by simp; omega
        rw [show i = 4 by omega] at HE
        go_wp2
        go_loopw [10] (fun iv wr => ∃ (i : Nat) (zs : List By), 1 ≤ i ∧ i ≤ 4 ∧ iv = .int .i64 i ∧ Hid (zs.length = 32) ∧ Hid (∀ j, gb zs j = if j % 4 = 3 ∧ j < 16 then gb key j ^^^ (gb bits7 (j / 4) &&& 240#8) else if (j % 4 = 0 ∧ 0 < j) ∧ j < 4 * i then gb key j ^^^ (gb bits7 (3 + j / 4) &&& 3#8) else gb key j) ∧ Row wr w.heap.size 22 (bs key) ∧ Row wr (w.heap.size + 1) 34 (bs bits7) ∧ Row wr w1.heap.size 22 (bs zs) ∧ Row wr (w1.heap.size + 1) 22 (bs key) ∧ Below w.heap.size w wr)
          (fun iv _ => 4 - (intOf iv).toNat)
        case atStart =>
          refine ⟨1, zs, by omega, by omega, rfl, HL, fun j => ?_, rK, rB, rO, rX, hbel⟩
          rw [HE.out j]
          by_cases h2 : j % 4 = 3 ∧ j < 16
          · rw [if_pos h2, if_pos (by omega)]
          · rw [if_neg h2, if_neg (by omega), if_neg (by omega)]
        case round =>
          clear rO rX rK rB hbel HL HE hdk
          obtain ⟨i, zs, hi1, hi, rfl, HL, HE, rK, rB, rO, rX, hbel⟩ := hrel
          by_cases h4 : i < 4
          · have hdk : decide ((i : Int) < 4) = true := by simp; omega
            have cx := rO.cellB (j := 4 * i) (by rw [HL.out]; omega)
            have cy := rB.cellB (j := 3 + i) (by rw [H7.out]; omega)
            have fx := rO.frozen (4 * i)
            rw [HE.out, if_neg (by omega), if_neg (by omega)] at cx
            obtain ⟨x, hxe⟩ : ∃ x, x = gb key (4 * i) := ⟨_, rfl⟩
            obtain ⟨y, hye⟩ : ∃ y, y = gb bits7 (3 + i) := ⟨_, rfl⟩
            rw [← hxe] at cx
            rw [← hye] at cy
            have hand : bits .and .u8 (v8 y) 3 = v8 (y &&& 3#8) := and_by y 3#8
            have HX := veil hxe
            have HY := veil hye
            clear hxe hye
            go_wp2
            go_region
            go_wp2
            go_roundw
            case rel =>
              rw [xor_by]
              have qO := rO.set (4 * i) (.int .u8 (v8 (x ^^^ (y &&& 3#8))))
              rw [bs_set] at qO
              refine ⟨i + 1, _, by omega, by omega, by go_num, ?_, ?_, rK.other (by show w.heap.size ≠ w1.heap.size; omega) _, rB.other (by show w.heap.size + 1 ≠ w1.heap.size; omega) _, qO, rX.other (by show w1.heap.size + 1 ≠ w1.heap.size; omega) _, Below.drew (hbel.setCell (p := ⟨w1.heap.size, 4 * i, none⟩) (by show w.heap.size ≤ w1.heap.size; omega) _)⟩
              · show List.length _ = 32
                rw [List.length_set]; exact HL.out
              · intro j
                rw [gb_set _ (by rw [HL.out]; omega), HE.out j, HX.out, HY.out]
                by_cases hj : 4 * i = j
                · subst hj
                  rw [if_pos rfl, if_neg (by omega), if_pos (by omega), show 4 * i / 4 = i by omega]
                · rw [if_neg hj]
                  by_cases h2 : j % 4 = 3 ∧ j < 16
                  · rw [if_pos h2, if_pos h2]
                  · rw [if_neg h2, if_neg h2]
                    by_cases h5 : (j % 4 = 0 ∧ 0 < j) ∧ j < 4 * i
                    · rw [if_pos h5, if_pos (by omega)]
                    · rw [if_neg h5, if_neg (by omega)]
            case measure => simp [intOf]; omega
          · have hdk : decide ((i : Int) < 4) = false := by simp; omega
            rw [show i = 4 by omega] at HE
            have HRO : Hid (rN zs = rN key) := show _ = _ from rN_other (bits := bits7) HE.out
            have HSO : Hid (sN zs = sN key) := show _ = _ from sN_same HK.out HL.out (fun j hj => by rw [HE.out, if_neg (by omega), if_neg (by omega)])
            clear HE
            go_wp2
            go_loopw [11] (fun iv wr => ∃ (i : Nat) (ys : List By), i ≤ 16 ∧ iv = .int .i64 i ∧ Hid (ys.length = 32) ∧ Hid (∀ j, gb ys j = if j < i then 0 else gb key j) ∧ Row wr w.heap.size 22 (bs key) ∧ Row wr w1.heap.size 22 (bs zs) ∧ Row wr (w1.heap.size + 1) 22 (bs ys) ∧ Below w.heap.size w wr)
              (fun iv _ => 16 - (intOf iv).toNat)
            case atStart => exact ⟨0, key, by omega, rfl, HK, fun j => by rw [if_neg (by omega)], rK, rO, rX, hbel⟩
            case round =>
              clear rO rX rK rB hbel hdk
              obtain ⟨i, ys, hi, rfl, HY, HE, rK, rO, rX, hbel⟩ := hrel
              by_cases h16 : i < 16
              · have hdk : decide ((i : Int) < 16) = true := by simp; omega
                have cx := rX.cellB (j := i) (by rw [HY.out]; omega)
                have fx := rX.frozen i
                generalize v8 (gb ys i) = y1 at cx
                go_wp2
                go_roundw
                case rel =>
                  have qN := rX.set i (.int .u8 (v8 0))
                  rw [bs_set] at qN
                  refine ⟨i + 1, _, by omega, by go_num, ?_, ?_, rK.other (by show w.heap.size ≠ w1.heap.size + 1; omega) _, rO.other (by show w1.heap.size ≠ w1.heap.size + 1; omega) _, qN, hbel.setCell (p := ⟨w1.heap.size + 1, i, none⟩) (by show w.heap.size ≤ w1.heap.size + 1; omega) _⟩
                  · show List.length _ = 32
                    rw [List.length_set]; exact HY.out
                  · intro j
                    rw [gb_set _ (by rw [HY.out]; omega), HE.out j]
                    by_cases hj : i = j
                    · rw [if_pos hj, if_pos (by omega)]
                    · rw [if_neg hj]
                      by_cases h2 : j < i
                      · rw [if_pos h2, if_pos (by omega)]
                      · rw [if_neg h2, if_neg (by omega)]
                case measure => simp [intOf]; omega
              · have hdk : decide ((i : Int) < 16) = false := by simp; omega
                rw [show i = 16 by omega] at HE
                have HRN : Hid (rN ys = 0) := show _ = _ from rN_zero (fun j hj => by rw [HE.out, if_pos hj])
                have HSY : Hid (sN ys = sN key) := show _ = _ from sN_same HK.out HY.out (fun j hj => by rw [HE.out, if_neg (by omega)])
                clear HE
                generalize wr = W3 at *
                have hs3 := hbel.size
                have hN3 := rX.lt
                go_wp2_with (with_reducible (show wpList _ _ _ (⟨_, Op.alloc 25, _, _, _, _⟩ :: _) _ _)
                             refine alloc_row rfl 25 rfl (bs z16) (by kernel_rfl) ?_)
                go_loopw [13] (fun iv wr => ∃ (i : Nat) (hs : List By), i ≤ 16 ∧ iv = .int .i64 i ∧ Hid (hs.length = 16) ∧ Hid (∀ j, j < i → gb hs j = gb key (16 + j)) ∧ Row wr w.heap.size 22 (bs key) ∧ Row wr w1.heap.size 22 (bs zs) ∧ Row wr (w1.heap.size + 1) 22 (bs ys) ∧ Row wr W3.heap.size 25 (bs hs) ∧ Below w.heap.size w wr)
                  (fun iv _ => 16 - (intOf iv).toNat)
                case atStart => exact ⟨0, z16, by omega, rfl, rfl, fun j hj => by omega, rK.alloc _, rO.alloc _, rX.alloc _, Row.new _ _ _, hbel.alloc hbel.size _⟩
                case round =>
                  clear rO rX rK hbel hdk
                  obtain ⟨i, hs, hi, rfl, HH, HD, rK, rO, rX, rH, hbel⟩ := hrel
                  by_cases h16 : i < 16
                  · have hdk : decide ((i : Int) < 16) = true := by simp; omega
                    have cx := rK.cellB (j := 16 + i) (by rw [HK.out]; omega)
                    have cz := rH.cellB (j := i) (by rw [HH.out]; exact h16)
                    have fz := rH.frozen i
                    obtain ⟨x, hxe⟩ : ∃ x, x = gb key (16 + i) := ⟨_, rfl⟩
                    rw [← hxe] at cx
                    generalize v8 (gb hs i) = y1 at cz
                    have HX := veil hxe
                    clear hxe
                    go_wp2
                    go_roundw
                    case rel =>
                      have qH := rH.set i (.int .u8 (v8 x))
                      rw [bs_set] at qH
                      refine ⟨i + 1, _, by omega, by go_num, ?_, ?_, rK.other (by show w.heap.size ≠ W3.heap.size; omega) _, rO.other (by show w1.heap.size ≠ W3.heap.size; omega) _, rX.other (by show w1.heap.size + 1 ≠ W3.heap.size; omega) _, qH, hbel.setCell (p := ⟨W3.heap.size, i, none⟩) (by show w.heap.size ≤ W3.heap.size; omega) _⟩
                      · show List.length _ = 16
                        rw [List.length_set]; exact HH.out
                      · intro j hj
                        rw [gb_set _ (by rw [HH.out]; exact h16)]
                        split
                        · rename_i h; rw [HX.out, h]
                        · exact HD.out j (by omega)
                    case measure => simp [intOf]; omega
                  · have hdk : decide ((i : Int) < 16) = false := by simp; omega
                    rw [show i = 16 by omega] at HD
                    have HSN : Hid (sN key = leK hs 16) := show _ = _ from sN_of HK.out HD.out
                    clear HD
                    generalize wr = w7 at *
                    go_wp2_with fail
                    -- region 22
                    have HO : Hid (tagL zs q.b = tagL key q.b) := show _ = _ from tag_same q.b HRO.out HSO.out
                    have HN : Hid (tagL ys q.b = hs) := show _ = _ from tag_none q.b HH.out HRN.out (by rw [HSY.out]; exact HSN.out)
                    have HTL : Hid ((tagL key q.b).length = 16) := show _ = _ from tagL_length _ _
                    generalize hT : tagL key q.b = T at *
                    have HT := veil hT
                    clear hT
                    have hzs : (bs zs).size = 32 := by rw [bs_size, HL.out]
                    have hys : (bs ys).size = 32 := by rw [bs_size, HY.out]
                    have hhs : (bs hs).size = 16 := by rw [bs_size, HH.out]
                    refine held_any (S := fun V => Below w7.heap.size w7 V) (by kernel_rfl) (Below.refl _ _).drew (fun V hV => ?_)
                    refine wpAnyH_take (i := 0) (oi := ⟨some 75, _, _, _, _, _⟩) (v := .agg (bs key)) rfl (by kernel_rfl) (by kernel_rfl) (by kernel_rfl) (fun _ _ _ h => h) (.inl ⟨by kernel_rfl, fun W h => run_load_row 22 _ rfl w.heap.size (by kernel_rfl) _ _ 32 5 Try.underlying22 (by kernel_rfl) hks W (rK.below h rK.lt)⟩) hV ?_
                    simp only [Act.put, List.setIfInBounds_toArray, List.set_cons_succ, List.set_cons_zero]
                    refine wpAnyH_take (i := 1) (oi := ⟨some 76, _, _, _, _, _⟩) (v := .slice q.a q.len q.cap) rfl (by kernel_rfl) (by kernel_rfl) (by kernel_rfl) (fun _ _ _ h => h) (.inl ⟨by kernel_rfl, fun W h => by kernel_rfl⟩) hV ?_
                    simp only [Act.put, List.setIfInBounds_toArray, List.set_cons_succ, List.set_cons_zero]
                    refine wpAnyH_take (i := 3) (oi := ⟨some 78, _, _, _, _, _⟩) (v := .agg (bs zs)) rfl (by kernel_rfl) (by kernel_rfl) (by kernel_rfl) (fun _ _ _ h => h) (.inl ⟨by kernel_rfl, fun W h => run_load_row 22 _ rfl w1.heap.size (by kernel_rfl) _ _ 32 5 Try.underlying22 (by kernel_rfl) hzs W (rO.below h rO.lt)⟩) hV ?_
                    simp only [Act.put, List.setIfInBounds_toArray, List.set_cons_succ, List.set_cons_zero]
                    refine wpAnyH_take (i := 4) (oi := ⟨some 79, _, _, _, _, _⟩) (v := .slice q.a q.len q.cap) rfl (by kernel_rfl) (by kernel_rfl) (by kernel_rfl) (fun _ _ _ h => h) (.inl ⟨by kernel_rfl, fun W h => by kernel_rfl⟩) hV ?_
                    simp only [Act.put, List.setIfInBounds_toArray, List.set_cons_succ, List.set_cons_zero]
                    refine H_call (o := ⟨some 77, _, _, _, _, _⟩) 2 13 #[.agg (bs key), .slice q.a q.len q.cap] rfl (by kernel_rfl) (by kernel_rfl) (by kernel_rfl) ?_
                    refine (of_any key HK.out q V (HQ.out.below (hbel.trans (hV.mono hbel.size))) (by omega)).mono ?_
                    rintro e1 V1 ⟨rfl, hbV1⟩
                    rw [HT.out]
                    have hV1 := hV.trans (hbV1.mono hV.size)
                    refine ⟨_, rfl, hV1, ?_⟩
                    simp only [Act.put, List.setIfInBounds_toArray, List.set_cons_succ, List.set_cons_zero]
                    refine H_call (o := ⟨some 80, _, _, _, _, _⟩) 5 13 #[.agg (bs zs), .slice q.a q.len q.cap] rfl (by kernel_rfl) (by kernel_rfl) (by kernel_rfl) ?_
                    refine (of_any zs HL.out q V1 (HQ.out.below (hbel.trans (hV1.mono hbel.size))) (by omega)).mono ?_
                    rintro e2 V2 ⟨rfl, hbV2⟩
                    rw [HO.out]
                    have hV2 := hV1.trans (hbV2.mono hV1.size)
                    refine ⟨_, rfl, hV2, ?_⟩
                    simp only [Act.put, List.setIfInBounds_toArray, List.set_cons_succ, List.set_cons_zero]
                    refine wpAnyH_take (i := 6) (oi := ⟨some 81, _, _, _, _, _⟩) (v := .bool true) rfl (by kernel_rfl) (by kernel_rfl) (by kernel_rfl) (fun _ _ _ h => h) (.inl ⟨by kernel_rfl, fun W h => exec_eql_self W 25 5 16 .u8 (.tmp 77) (.tmp 80) 25 (bs T) rfl (by kernel_rfl) (by kernel_rfl) Try.underlying25 Try.underlying5 (by kernel_rfl) (by kernel_rfl) (by kernel_rfl) (fun j hj => ⟨_, bs_get _ j (by rw [HTL.out]; exact hj)⟩)⟩) hV2 ?_
                    simp only [Act.put, List.setIfInBounds_toArray, List.set_cons_succ, List.set_cons_zero]
                    refine wpAnyH_take (i := 7) (oi := ⟨some 82, _, _, _, _, _⟩) (v := .bool true) rfl (by kernel_rfl) (by kernel_rfl) (by kernel_rfl) (fun _ _ _ h => h) (.inl ⟨by kernel_rfl, fun W h => by kernel_rfl⟩) hV2 ?_
                    simp only [Act.put, List.setIfInBounds_toArray, List.set_cons_succ, List.set_cons_zero]
                    refine wpAnyH_take (i := 8) (oi := ⟨some 83, _, _, _, _, _⟩) (v := .agg (bs ys)) rfl (by kernel_rfl) (by kernel_rfl) (by kernel_rfl) (fun _ _ _ h => h) (.inl ⟨by kernel_rfl, fun W h => run_load_row 22 _ rfl (w1.heap.size + 1) (by kernel_rfl) _ _ 32 5 Try.underlying22 (by kernel_rfl) hys W (rX.below h rX.lt)⟩) hV2 ?_
                    simp only [Act.put, List.setIfInBounds_toArray, List.set_cons_succ, List.set_cons_zero]
                    refine wpAnyH_take (i := 9) (oi := ⟨some 84, _, _, _, _, _⟩) (v := .slice q.a q.len q.cap) rfl (by kernel_rfl) (by kernel_rfl) (by kernel_rfl) (fun _ _ _ h => h) (.inl ⟨by kernel_rfl, fun W h => by kernel_rfl⟩) hV2 ?_
                    simp only [Act.put, List.setIfInBounds_toArray, List.set_cons_succ, List.set_cons_zero]
                    refine wpAnyH_take (i := 11) (oi := ⟨some 86, _, _, _, _, _⟩) (v := .agg (bs hs)) rfl (by kernel_rfl) (by kernel_rfl) (by kernel_rfl) (fun _ _ _ h => h) (.inl ⟨by kernel_rfl, fun W h => run_load_row 25 _ rfl W3.heap.size (by kernel_rfl) _ _ 16 5 Try.underlying25 (by kernel_rfl) hhs W (rH.below h rH.lt)⟩) hV2 ?_
                    simp only [Act.put, List.setIfInBounds_toArray, List.set_cons_succ, List.set_cons_zero]
                    refine H_call (o := ⟨some 85, _, _, _, _, _⟩) 10 13 #[.agg (bs ys), .slice q.a q.len q.cap] rfl (by kernel_rfl) (by kernel_rfl) (by kernel_rfl) ?_
                    refine (of_any ys HY.out q V2 (HQ.out.below (hbel.trans (hV2.mono hbel.size))) (by omega)).mono ?_
                    rintro e3 V3 ⟨rfl, hbV3⟩
                    rw [HN.out]
                    have hV3 := hV2.trans (hbV3.mono hV2.size)
                    refine ⟨_, rfl, hV3, ?_⟩
                    simp only [Act.put, List.setIfInBounds_toArray, List.set_cons_succ, List.set_cons_zero]
                    refine wpAnyH_take (i := 12) (oi := ⟨some 87, _, _, _, _, _⟩) (v := .bool true) rfl (by kernel_rfl) (by kernel_rfl) (by kernel_rfl) (fun _ _ _ h => h) (.inl ⟨by kernel_rfl, fun W h => exec_eql_self W 25 5 16 .u8 (.tmp 85) (.tmp 86) 25 (bs hs) rfl (by kernel_rfl) (by kernel_rfl) Try.underlying25 Try.underlying5 (by kernel_rfl) (by kernel_rfl) (by kernel_rfl) (fun j hj => ⟨_, bs_get _ j (by rw [HH.out]; exact hj)⟩)⟩) hV3 ?_
                    simp only [Act.put, List.setIfInBounds_toArray, List.set_cons_succ, List.set_cons_zero]
                    refine wpAnyH_take (i := 13) (oi := ⟨some 88, _, _, _, _, _⟩) (v := .bool true) rfl (by kernel_rfl) (by kernel_rfl) (by kernel_rfl) (fun _ _ _ h => h) (.inl ⟨by kernel_rfl, fun W h => by kernel_rfl⟩) hV3 ?_
                    simp only [Act.put, List.setIfInBounds_toArray, List.set_cons_succ, List.set_cons_zero]
                    refine wpAnyH_take (i := 14) (oi := ⟨some 6, _, _, _, _, _⟩) (v := .bool true) rfl (by kernel_rfl) (by kernel_rfl) (by kernel_rfl) (fun _ _ _ h => h) (.inl ⟨by kernel_rfl, fun W h => by kernel_rfl⟩) hV3 ?_
                    simp only [Act.put, List.setIfInBounds_toArray, List.set_cons_succ, List.set_cons_zero]
                    have b9 := hbel.trans (hV3.mono hbel.size)
                    refine wpAnyH_done (by kernel_rfl) ?_ _
                    go_wp2
                    go_ret
                    exact ⟨rfl, b9⟩
end Go.Proofs.Ytholddbmnlnkkaa
