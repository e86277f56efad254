/-
  What mailcoachref05.fold answers.
-/
import Derived.Test.YtholddbmnlnkkaaPlRefM
namespace Go.Proofs.Ytholddbmnlnkkaa
open Go Go.RowKit

/-- What is above 130 bits, five times, and what is below. -/
def foldN (v : Nat) : Nat := v % 1361129467683753853853498429727072845824 + 5 * (v / 1361129467683753853853498429727072845824)
theorem pow1 (v t : Nat) : v / 256 ^ (16 + t) = v / 256 ^ 16 / 256 ^ t := by rw [Nat.pow_add, Nat.div_div_eq_div_mul]
theorem high_digit (v t : Nat) (hv : v < 256 ^ 34) (ht : t < 18) : v / 256 ^ (16 + t) % 256 / 4 + (if 16 + t + 1 < 34 then v / 256 ^ (16 + t + 1) % 256 % 4 * 64 else 0) = v / 1361129467683753853853498429727072845824 / 256 ^ t % 256 := by
  have e1 : v / 1361129467683753853853498429727072845824 / 256 ^ t = v / 256 ^ (16 + t) / 4 := by
    rw [show (1361129467683753853853498429727072845824 : Nat) = 256 ^ 16 * 4 by decide, Nat.div_div_eq_div_mul, Nat.div_div_eq_div_mul, Nat.pow_add, Nat.mul_assoc, Nat.mul_comm 4, ← Nat.mul_assoc]
  have e2 : v / 256 ^ (16 + t + 1) = v / 256 ^ (16 + t) / 256 := by rw [Nat.pow_succ, Nat.div_div_eq_div_mul]
  rw [e1]
  by_cases h : 16 + t + 1 < 34
  · rw [if_pos h, e2]
    omega
  · rw [if_neg h]
    have h17 : t = 17 := by omega
    subst h17
    have : v / 256 ^ (16 + 17) < 256 := by
      rw [Nat.div_lt_iff_lt_mul (Nat.pow_pos (by decide)), ← Nat.pow_succ']
      exact hv
    omega
theorem nK_low (v : Nat) (lo : List Nat) (h : ∀ i, i < 16 → gn lo i = v / 256 ^ i % 256) (h16 : gn lo 16 = v / 256 ^ 16 % 256 % 4) : nK lo 17 = v % 1361129467683753853853498429727072845824 := by
  rw [show nK lo 17 = nK lo 16 + gn lo 16 * 256 ^ 16 from rfl, h16, nK_congr (b := dig v 34) 16 (fun i hi => by rw [h i hi, dig_get _ _ _ (by omega)]), nK_dig v 34 16 (by omega)]
  have e : (256 : Nat) ^ 16 = 340282366920938463463374607431768211456 := by decide
  rw [e]
  omega
theorem nK_high (v : Nat) (hv : v < 256 ^ 34) (h : List Nat) (hh : ∀ t, t < 18 → gn h t = v / 1361129467683753853853498429727072845824 / 256 ^ t % 256) : nK h 18 = v / 1361129467683753853853498429727072845824 := by
  rw [nK_congr (b := dig (v / 1361129467683753853853498429727072845824) 18) 18 (fun t ht => by rw [hh t ht, dig_get _ _ _ ht]), nK_dig _ _ _ (Nat.le_refl _)]
  apply Nat.mod_eq_of_lt
  rw [Nat.div_lt_iff_lt_mul (by decide)]
  have e : (256 : Nat) ^ 34 ≤ 256 ^ 18 * 1361129467683753853853498429727072845824 := by decide
  omega
/-- The places of what is above. -/
def hiD (v t : Nat) : Nat := v / 1361129467683753853853498429727072845824 / 256 ^ t % 256
/-- The places of what is below. -/
def loD (v i : Nat) : Nat := if i < 16 then v / 256 ^ i % 256 else if i = 16 then v / 256 ^ 16 % 256 % 4 else 0
theorem loD_le (v i : Nat) : loD v i ≤ 255 := by
  unfold loD
  split
  · have := Nat.mod_lt (v / 256 ^ i) (show 256 > 0 by decide); omega
  · split
    · omega
    · omega
theorem hiD_le (v t : Nat) : hiD v t ≤ 255 := by
  unfold hiD
  have := Nat.mod_lt (v / 1361129467683753853853498429727072845824 / 256 ^ t) (show 256 > 0 by decide)
  omega
theorem nV_fold (v : Nat) (hv : v < 256 ^ 34) (zs : List Nat) (hl : zs.length = 34) (hz : ∀ i, gn zs i = loD v i + if i < 18 then 5 * hiD v i else 0) : nV zs = foldN v := by
  rw [← nK_out zs 34 (by omega)]
  have lo17 := nK_low v ((List.range 34).map (loD v)) (fun i hi => by simp [gn, loD, hi, show i < 34 by omega]) (by simp [gn, loD])
  have hi18 := nK_high v hv ((List.range 18).map (hiD v)) (fun t ht => by simp [gn, hiD, ht])
  have hlo : ∀ k, 17 ≤ k → nK ((List.range 34).map (loD v)) k = nK ((List.range 34).map (loD v)) 17 := by
    intro k hk
    obtain ⟨d, rfl⟩ : ∃ d, k = 17 + d := ⟨k - 17, by omega⟩
    induction d with
    | zero => rfl
    | succ d ih =>
      rw [show 17 + (d + 1) = (17 + d) + 1 by omega, show nK ((List.range 34).map (loD v)) (17 + d + 1) = nK ((List.range 34).map (loD v)) (17 + d) + gn ((List.range 34).map (loD v)) (17 + d) * 256 ^ (17 + d) from rfl, ih (by omega)]
      have e : gn ((List.range 34).map (loD v)) (17 + d) = 0 := by
        by_cases h : 17 + d < 34
        · have e2 : loD v (17 + d) = 0 := by unfold loD; rw [if_neg (by omega), if_neg (by omega)]
          rw [← e2]
          simp [gn, h]
        · rw [gn_out (by simp; omega)]
      rw [e, Nat.zero_mul, Nat.add_zero]
  have hmul : ∀ (h : List Nat) k, nK (h.map (5 * ·)) k = 5 * nK h k := by
    intro h k
    induction k with
    | zero => rfl
    | succ k ih =>
      rw [show nK (h.map (5 * ·)) (k + 1) = nK (h.map (5 * ·)) k + gn (h.map (5 * ·)) k * 256 ^ k from rfl, ih, show nK h (k + 1) = nK h k + gn h k * 256 ^ k from rfl, Nat.mul_add]
      congr 1
      have e : gn (h.map (5 * ·)) k = 5 * gn h k := by
        unfold gn
        rw [List.getElem?_map]
        cases h[k]? <;> rfl
      rw [e, Nat.mul_assoc]
  rw [nK_add ((List.range 34).map (loD v)) (((List.range 18).map (hiD v)).map (5 * ·)) zs 34 (fun i hi => ?_), hlo 34 (by omega), lo17, nK_out (((List.range 18).map (hiD v)).map (5 * ·)) 34 (by simp), ← nK_out (((List.range 18).map (hiD v)).map (5 * ·)) 18 (by simp), hmul, hi18]
  · rfl
  · rw [hz i]
    congr 1
    · simp [gn, hi]
    · by_cases h18 : i < 18
      · rw [if_pos h18]
        simp [gn, h18]
      · rw [if_neg h18, gn_out (by simp; omega)]

set_option maxRecDepth 20000 in
set_option maxHeartbeats 2000000 in
theorem refFold_any (ga ca : Nat) (v : Nat) (hv : v < 256 ^ 34) (w : World) (ha : NOk w ga 34 (dig v 34)) :
    Calls Try.prog 32 #[.slice (some ⟨ga, 0, none⟩) 34 ca] w fun e w' => ∃ x, e = .returned x ∧ w'.ownsRow w.heap.size 37 1 x 34 (vn (dig (foldN v) 34)) ∧ Below w.heap.size w w' := by
  obtain ⟨i0, hi, hz0, hz1, hz2⟩ := info_parts (P := Try.prog) (e := 37) (z := .int .u64 0) (size := 1) (bytes := 8) (by kernel_rfl)
  have HA := veil ha
  have HV := veil hv
  clear ha hv
  go_enter Try.func32, Try.ntmps32
  go_wp2_with (with_reducible (show wpList _ _ _ (⟨_, Op.makeSlice _ _ _, _, _, _, _⟩ :: _) _ _)
               refine wpList_make_full w rfl _ _ 48 rfl w.heap.size 37 i0 (.int .u64 0) 1 Try.underlying48 hi hz0 hz1 .i64 .i64 34 34 34 rfl rfl rfl rfl (by rw [hz2]; decide) (by unfold maxLen; decide) (Nat.le_refl _) ?_
               intro w6 own6 grow6)
  rw [made_vn] at own6
  have r6 : Row w6 w.heap.size 37 (ns z34) := own_row own6
  have b6 : Below w.heap.size w w6 := (Below.refl _ w).grown grow6 (Nat.le_refl _) (fun q e => by cases e)
  clear own6 grow6
  go_loopw [4] (fun iv wr => ∃ (k : Nat) (zs : List Nat), k ≤ 17 ∧ iv = .int .i64 k ∧ Hid (zs.length = 34) ∧ Hid (∀ i, gn zs i = if i < k then v / 256 ^ i % 256 else 0) ∧ Row wr w.heap.size 37 (ns zs) ∧ Below w.heap.size w wr)
    (fun iv _ => 17 - (intOf iv).toNat)
  case atStart => exact ⟨0, z34, by omega, rfl, rfl, fun i => by rw [if_neg (by omega), gn_z34], r6, b6⟩
  case round =>
    clear r6 b6
    obtain ⟨k, zs, hk, rfl, HL, HE, rZ, hbel⟩ := hrel
    by_cases hlt : k < 17
    · have hdk : decide ((k : Int) < 17) = true := by simp; omega
      have cx := (HA.out.below hbel).cell k (by omega)
      have cz := rZ.cellN (j := k) (by rw [HL.out]; omega)
      have fz := rZ.frozen k
      rw [dig_get _ _ _ (by omega)] at cx
      obtain ⟨x, hxe⟩ : ∃ x, x = v / 256 ^ k % 256 := ⟨_, rfl⟩
      rw [← hxe] at cx
      generalize gn zs k = y0 at cz
      have HX := veil hxe
      have hp : (0 : Int) ≤ (k : Int) ∧ (k : Int) < 34 := by omega
      clear hxe
      go_wp2
      go_roundw
      case rel =>
        have qZ := rZ.set k (.int .u64 (x : Int))
        rw [ns_set] at qZ
        refine ⟨k + 1, _, by omega, by go_num, ?_, ?_, qZ, hbel.setCell (p := ⟨w.heap.size, k, none⟩) (Nat.le_refl _) _⟩
        · show List.length _ = 34
          rw [List.length_set]; exact HL.out
        · intro i
          rw [gn_set, HE.out i, HX.out, HL.out]
          by_cases hi : k = i ∧ i < 34
          · rw [if_pos hi, if_pos (by omega), hi.1]
          · rw [if_neg hi]
            by_cases h2 : i < k
            · rw [if_pos h2, if_pos (by omega)]
            · rw [if_neg h2, if_neg (by omega)]
      case measure => simp [intOf]; omega
    · have hdk : decide ((k : Int) < 17) = false := by simp; omega
      rw [show k = 17 by omega] at HE
      have cx := (HA.out.below hbel).cell 16 (by omega)
      rw [dig_get _ _ _ (by omega)] at cx
      have cz := rZ.cellN (j := 16) (by rw [HL.out]; omega)
      have fz := rZ.frozen 16
      obtain ⟨x, hxe⟩ : ∃ x, x = v / 256 ^ 16 % 256 := ⟨_, rfl⟩
      have hx8 : x < 256 := by rw [hxe]; exact Nat.mod_lt _ (by decide)
      rw [← hxe] at cx
      generalize gn zs 16 = y0 at cz
      have E1 : (x : Int) % 4 = ((x % 4 : Nat) : Int) := by omega
      have q0 := rZ.set 16 (.int .u64 ((x % 4 : Nat) : Int))
      rw [ns_set] at q0
      have HE2 : Hid (∀ i, gn (zs.set 16 (x % 4)) i = loD v i) := show ∀ i, gn (zs.set 16 (x % 4)) i = loD v i from fun i => by
        rw [gn_set, HL.out, HE.out i, hxe]
        unfold loD
        by_cases h6 : 16 = i ∧ i < 34
        · rw [if_pos h6, if_neg (by omega), if_pos (by omega)]
        · rw [if_neg h6]
          by_cases h2 : i < 16
          · rw [if_pos (by omega), if_pos h2]
          · rw [if_neg (by omega), if_neg h2, if_neg (by omega)]
      have HL2 : Hid ((zs.set 16 (x % 4)).length = 34) := show _ = _ by rw [List.length_set]; exact HL.out
      have b7 := hbel.setCell (p := ⟨w.heap.size, 16, none⟩) (Nat.le_refl _) (.int .u64 ((x % 4 : Nat) : Int))
      have E1v := veil E1
      clear hxe HE E1
      go_wp2
      rw [E1v.out]
      generalize wr.setCell ⟨w.heap.size, 16, none⟩ (.int .u64 ((x % 4 : Nat) : Int)) = W7 at *
      generalize zs.set 16 (x % 4) = ls at *
      go_loopw [5] (fun iv wr => ∃ (k : Nat) (ys : List Nat), k ≤ 18 ∧ iv = .int .i64 ((16 + k : Nat) : Int) ∧ Hid (ys.length = 34) ∧ Hid (∀ i, gn ys i = loD v i + if i < k then 5 * hiD v i else 0) ∧ Row wr w.heap.size 37 (ns ys) ∧ Below w.heap.size w wr)
        (fun iv _ => 34 - (intOf iv).toNat)
      case atStart => exact ⟨0, ls, by omega, rfl, HL2, fun i => by rw [if_neg (by omega), Nat.add_zero, HE2.out], q0, b7⟩
      case round =>
        clear q0 b7 HL2 HE2 rZ hbel HL hdk cz cx fz
        obtain ⟨k, ys, hk, rfl, HL, HE, rZ, hbel⟩ := hrel
        by_cases hlt : k < 18
        · have hdk : decide (((16 + k : Nat) : Int) < 34) = true := by simp; omega
          have cx := (HA.out.below hbel).cell (16 + k) (by omega)
          rw [dig_get _ _ _ (by omega)] at cx
          have cz := rZ.cellN (j := k) (by rw [HL.out]; omega)
          have fz := rZ.frozen k
          rw [HE.out k, if_neg (by omega), Nat.add_zero] at cz
          obtain ⟨x, hxe⟩ : ∃ x, x = v / 256 ^ (16 + k) % 256 := ⟨_, rfl⟩
          have hx8 : x < 256 := by rw [hxe]; exact Nat.mod_lt _ (by decide)
          rw [← hxe] at cx
          obtain ⟨y, hye⟩ : ∃ y, y = loD v k := ⟨_, rfl⟩
          have hy8 : y ≤ 255 := by rw [hye]; exact loD_le v k
          rw [← hye] at cz
          have HDG : Hid (x / 4 + (if 16 + k + 1 < 34 then v / 256 ^ (16 + k + 1) % 256 % 4 * 64 else 0) = hiD v k) := show _ = _ by rw [hxe]; exact high_digit v k HV.out hlt
          have hh8 := hiD_le v k
          generalize hhd : hiD v k = hd at *
          have HHD := veil hhd
          have HYE := veil hye
          clear hxe hye hhd
          by_cases h17 : k < 17
          · have cy := (HA.out.below hbel).cell (16 + k + 1) (by omega)
            rw [dig_get _ _ _ (by omega)] at cy
            rw [if_pos (by omega)] at HDG
            generalize v / 256 ^ (16 + k + 1) % 256 = y2 at *
            have hd4 : decide ((16 : Int) + (k : Int) + 1 < 34) = true := by simp; omega
            have HW : Hid ((y : Int) + 5 * ((x : Int) / 4 + (y2 : Int) % 4 * 64) = ((y + 5 * hd : Nat) : Int)) := show _ = _ by
              have := HDG.out
              omega
            go_wp2
            go_roundw
            case rel =>
              rw [HW.out]
              have qZ := rZ.set k (.int .u64 ((y + 5 * hd : Nat) : Int))
              rw [ns_set] at qZ
              refine ⟨k + 1, _, by omega, by go_num, ?_, ?_, qZ, hbel.setCell (p := ⟨w.heap.size, k, none⟩) (Nat.le_refl _) _⟩
              · show List.length _ = 34
                rw [List.length_set]; exact HL.out
              · intro i
                rw [gn_set, HE.out i, HL.out]
                by_cases hi : k = i ∧ i < 34
                · rw [if_pos hi, if_pos (by omega), ← hi.1, HYE.out, HHD.out]
                · rw [if_neg hi]
                  by_cases h2 : i < k
                  · rw [if_pos h2, if_pos (by omega)]
                  · rw [if_neg h2, if_neg (by omega)]
            case measure => simp [intOf]; omega
          · rw [if_neg (by omega), Nat.add_zero] at HDG
            have hd4 : decide ((16 : Int) + (k : Int) + 1 < 34) = false := by simp; omega
            have HW : Hid ((y : Int) + 5 * ((x : Int) / 4) = ((y + 5 * hd : Nat) : Int)) := show _ = _ by
              have := HDG.out
              omega
            go_wp2
            go_roundw
            case rel =>
              rw [HW.out]
              have qZ := rZ.set k (.int .u64 ((y + 5 * hd : Nat) : Int))
              rw [ns_set] at qZ
              refine ⟨k + 1, _, by omega, by go_num, ?_, ?_, qZ, hbel.setCell (p := ⟨w.heap.size, k, none⟩) (Nat.le_refl _) _⟩
              · show List.length _ = 34
                rw [List.length_set]; exact HL.out
              · intro i
                rw [gn_set, HE.out i, HL.out]
                by_cases hi : k = i ∧ i < 34
                · rw [if_pos hi, if_pos (by omega), ← hi.1, HYE.out, HHD.out]
                · rw [if_neg hi]
                  by_cases h2 : i < k
                  · rw [if_pos h2, if_pos (by omega)]
                  · rw [if_neg h2, if_neg (by omega)]
            case measure => simp [intOf]; omega
        · have hdk : decide (((16 + k : Nat) : Int) < 34) = false := by simp; omega
          rw [show k = 18 by omega] at HE
          have HNV : Hid (nV ys = foldN v) := show _ = _ from nV_fold v HV.out ys HL.out HE.out
          have HC : Hid (∀ i, gn ys i ≤ 1152921504606846976) := show ∀ i, gn ys i ≤ 1152921504606846976 from fun i => by
            rw [HE.out i]
            have h1 := loD_le v i
            have h2 := hiD_le v i
            split <;> omega
          have HNO := veil (NOk.of_row rZ HL.out)
          clear HE
          go_wp2_with fail
          refine (refCarried_any w.heap.size 34 ys wr HNO.out HC.out).mono ?_
          rintro e8 w8 ⟨v8', rfl, own8, hb8⟩
          have own9 := own_low own8 hbel.size
          rw [HNV.out] at own9
          go_wp2
          go_ret
          exact ⟨_, rfl, own9, hbel.trans (hb8.mono hbel.size)⟩
end Go.Proofs.Ytholddbmnlnkkaa
