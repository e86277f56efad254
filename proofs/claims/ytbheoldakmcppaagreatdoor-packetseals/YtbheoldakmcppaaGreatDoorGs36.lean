/-
  Out of PlRefF, PlRefN.
-/
import Derived.Test.YtbheoldakmcppaaGreatDoorGs35

/-! What mailcoachref05.fold answers. -/
namespace Go.Proofs.YtbheoldakmcppaaGreatDoor
open Go Go.RowKit

/-- What is above 130 bits, five times, and what is below. -/
def foldN (v : Nat) : Nat := v % 1361129467683753853853498429727072845824 + 5 * (v / 1361129467683753853853498429727072845824)
theorem high_digit (v t : Nat) (hv : v < 256 ^ 34) (ht : t < 18) : v / 256 ^ (16 + t) % 256 / 4 + (if 16 + t + 1 < 34 then v / 256 ^ (16 + t + 1) % 256 % 4 * 64 else 0) = v / 1361129467683753853853498429727072845824 / 256 ^ t % 256 := by
  have e1 : v / 1361129467683753853853498429727072845824 / 256 ^ t = v / 256 ^ (16 + t) / 4 := by
    rw [show (1361129467683753853853498429727072845824 : Nat) = 256 ^ 16 * 4 by decide, Nat.div_div_eq_div_mul, Nat.div_div_eq_div_mul, Nat.pow_add, Nat.mul_assoc, Nat.mul_comm 4, ← Nat.mul_assoc]
  have e2 : v / 256 ^ (16 + t + 1) = v / 256 ^ (16 + t) / 256 := by rw [Nat.pow_succ, Nat.div_div_eq_div_mul]
  rw [e1]
  by_cases h : 16 + t + 1 < 34
  · rw [if_pos h, e2]
    omega
  · rw [if_neg h]
    have h17 : t = 17 := by omega
    subst h17
    have : v / 256 ^ (16 + 17) < 256 := by
      rw [Nat.div_lt_iff_lt_mul (Nat.pow_pos (by decide)), ← Nat.pow_succ']
      exact hv
    omega
theorem nK_low (v : Nat) (lo : List Nat) (h : ∀ i, i < 16 → gn lo i = v / 256 ^ i % 256) (h16 : gn lo 16 = v / 256 ^ 16 % 256 % 4) : nK lo 17 = v % 1361129467683753853853498429727072845824 := by
  rw [show nK lo 17 = nK lo 16 + gn lo 16 * 256 ^ 16 from rfl, h16, nK_congr (b := dig v 34) 16 (fun i hi => by rw [h i hi, dig_get _ _ _ (by omega)]), nK_dig v 34 16 (by omega)]
  have e : (256 : Nat) ^ 16 = 340282366920938463463374607431768211456 := by decide
  rw [e]
  omega
theorem nK_high (v : Nat) (hv : v < 256 ^ 34) (h : List Nat) (hh : ∀ t, t < 18 → gn h t = v / 1361129467683753853853498429727072845824 / 256 ^ t % 256) : nK h 18 = v / 1361129467683753853853498429727072845824 := by
  rw [nK_congr (b := dig (v / 1361129467683753853853498429727072845824) 18) 18 (fun t ht => by rw [hh t ht, dig_get _ _ _ ht]), nK_dig _ _ _ (Nat.le_refl _)]
  apply Nat.mod_eq_of_lt
  rw [Nat.div_lt_iff_lt_mul (by decide)]
  have e : (256 : Nat) ^ 34 ≤ 256 ^ 18 * 1361129467683753853853498429727072845824 := by decide
  omega
/-- The places of what is above. -/
def hiD (v t : Nat) : Nat := v / 1361129467683753853853498429727072845824 / 256 ^ t % 256
/-- The places of what is below. -/
def loD (v i : Nat) : Nat := if i < 16 then v / 256 ^ i % 256 else if i = 16 then v / 256 ^ 16 % 256 % 4 else 0
theorem loD_le (v i : Nat) : loD v i ≤ 255 := by
  unfold loD
  split
  · have := Nat.mod_lt (v / 256 ^ i) (show 256 > 0 by decide); omega
  · split
    · omega
    · omega
theorem hiD_le (v t : Nat) : hiD v t ≤ 255 := by
  unfold hiD
  have := Nat.mod_lt (v / 1361129467683753853853498429727072845824 / 256 ^ t) (show 256 > 0 by decide)
  omega
theorem nV_fold (v : Nat) (hv : v < 256 ^ 34) (zs : List Nat) (hl : zs.length = 34) (hz : ∀ i, gn zs i = loD v i + if i < 18 then 5 * hiD v i else 0) : nV zs = foldN v := by
  rw [← nK_out zs 34 (by omega)]
  have lo17 := nK_low v ((List.range 34).map (loD v)) (fun i hi => by simp [gn, loD, hi, show i < 34 by omega]) (by simp [gn, loD])
  have hi18 := nK_high v hv ((List.range 18).map (hiD v)) (fun t ht => by simp [gn, hiD, ht])
  have hlo : ∀ k, 17 ≤ k → nK ((List.range 34).map (loD v)) k = nK ((List.range 34).map (loD v)) 17 := by
    intro k hk
    obtain ⟨d, rfl⟩ : ∃ d, k = 17 + d := ⟨k - 17, by omega⟩
    induction d with
    | zero => rfl
    | succ d ih =>
      rw [show 17 + (d + 1) = (17 + d) + 1 by omega, show nK ((List.range 34).map (loD v)) (17 + d + 1) = nK ((List.range 34).map (loD v)) (17 + d) + gn ((List.range 34).map (loD v)) (17 + d) * 256 ^ (17 + d) from rfl, ih (by omega)]
      have e : gn ((List.range 34).map (loD v)) (17 + d) = 0 := by
        by_cases h : 17 + d < 34
        · have e2 : loD v (17 + d) = 0 := by unfold loD; rw [if_neg (by omega), if_neg (by omega)]
          rw [← e2]
          simp [gn, h]
        · rw [gn_out (by simp; omega)]
      rw [e, Nat.zero_mul, Nat.add_zero]
  have hmul : ∀ (h : List Nat) k, nK (h.map (5 * ·)) k = 5 * nK h k := by
    intro h k
    induction k with
    | zero => rfl
    | succ k ih =>
      rw [show nK (h.map (5 * ·)) (k + 1) = nK (h.map (5 * ·)) k + gn (h.map (5 * ·)) k * 256 ^ k from rfl, ih, show nK h (k + 1) = nK h k + gn h k * 256 ^ k from rfl, Nat.mul_add]
      congr 1
      have e : gn (h.map (5 * ·)) k = 5 * gn h k := by
        unfold gn
        rw [List.getElem?_map]
        cases h[k]? <;> rfl
      rw [e, Nat.mul_assoc]
  rw [nK_add ((List.range 34).map (loD v)) (((List.range 18).map (hiD v)).map (5 * ·)) zs 34 (fun i hi => ?_), hlo 34 (by omega), lo17, nK_out (((List.range 18).map (hiD v)).map (5 * ·)) 34 (by simp), ← nK_out (((List.range 18).map (hiD v)).map (5 * ·)) 18 (by simp), hmul, hi18]
  · rfl
  · rw [hz i]
    congr 1
    · simp [gn, hi]
    · by_cases h18 : i < 18
      · rw [if_pos h18]
        simp [gn, h18]
      · rw [if_neg h18, gn_out (by simp; omega)]

set_option maxRecDepth 20000 in
set_option maxHeartbeats 2000000 in
theorem refFold_any (ga ca : Nat) (v : Nat) (hv : v < 256 ^ 34) (w : World) (ha : NOk w ga 34 (dig v 34)) :
    Calls Tryz.prog 180 #[.slice (some ⟨ga, 0, none⟩) 34 ca] w fun e w' => ∃ x, e = .returned x ∧ w'.ownsRow w.heap.size 23 1 x 34 (vn (dig (foldN v) 34)) ∧ Below w.heap.size w w' := by
  obtain ⟨i0, hi, hz0, hz1, hz2⟩ := info_parts (P := Tryz.prog) (e := 23) (z := .int .u64 0) (size := 1) (bytes := 8) (by kernel_rfl)
  have HA := veil ha
  have HV := veil hv
  clear ha hv
  go_enter Tryz.func180, Tryz.ntmps180
  go_wp2_with (with_reducible (show wpList _ _ _ (⟨_, Op.makeSlice _ _ _, _, _, _, _⟩ :: _) _ _)
               refine wpList_make_full w rfl _ _ 96 rfl w.heap.size 23 i0 (.int .u64 0) 1 Tryz.underlying96 hi hz0 hz1 .i64 .i64 34 34 34 rfl rfl rfl rfl (by rw [hz2]; decide) (by unfold maxLen; decide) (Nat.le_refl _) ?_
               intro w6 own6 grow6)
  rw [made_vn] at own6
  have r6 : Row w6 w.heap.size 23 (ns z34) := own_row own6
  have b6 : Below w.heap.size w w6 := (Below.refl _ w).grown grow6 (Nat.le_refl _) (fun q e => by cases e)
  clear own6 grow6
  go_loopw [4] (fun iv wr => ∃ (k : Nat) (zs : List Nat), k ≤ 17 ∧ iv = .int .i64 k ∧ Hid (zs.length = 34) ∧ Hid (∀ i, gn zs i = if i < k then v / 256 ^ i % 256 else 0) ∧ Row wr w.heap.size 23 (ns zs) ∧ Below w.heap.size w wr)
    (fun iv _ => 17 - (intOf iv).toNat)
  case atStart => exact ⟨0, z34, by omega, rfl, rfl, fun i => by rw [if_neg (by omega), gn_z34], r6, b6⟩
  case round =>
    clear r6 b6
    obtain ⟨k, zs, hk, rfl, HL, HE, rZ, hbel⟩ := hrel
    by_cases hlt : k < 17
    · have hdk : decide ((k : Int) < 17) = true := by simp; omega
      have cx := (HA.out.below hbel).cell k (by omega)
      have cz := rZ.cellN (j := k) (by rw [HL.out]; omega)
      have fz := rZ.frozen k
      rw [dig_get _ _ _ (by omega)] at cx
      obtain ⟨x, hxe⟩ : ∃ x, x = v / 256 ^ k % 256 := ⟨_, rfl⟩
      rw [← hxe] at cx
      generalize gn zs k = y0 at cz
      have HX := veil hxe
      have hp : (0 : Int) ≤ (k : Int) ∧ (k : Int) < 34 := by omega
      clear hxe
      go_wp2
      go_roundw
      case rel =>
        have qZ := rZ.set k (.int .u64 (x : Int))
        rw [ns_set] at qZ
        refine ⟨k + 1, _, by omega, by go_num, ?_, ?_, qZ, hbel.setCell (p := ⟨w.heap.size, k, none⟩) (Nat.le_refl _) _⟩
        · show List.length _ = 34
          rw [List.length_set]; exact HL.out
        · intro i
          rw [gn_set, HE.out i, HX.out, HL.out]
          by_cases hi : k = i ∧ i < 34
          · rw [if_pos hi, if_pos (by omega), hi.1]
          · rw [if_neg hi]
            by_cases h2 : i < k
            · rw [if_pos h2, if_pos (by omega)]
            · rw [if_neg h2, if_neg (by omega)]
      case measure => simp [intOf]; omega
    · have hdk : decide ((k : Int) < 17) = false := by simp; omega
      rw [show k = 17 by omega] at HE
      have cx := (HA.out.below hbel).cell 16 (by omega)
      rw [dig_get _ _ _ (by omega)] at cx
      have cz := rZ.cellN (j := 16) (by rw [HL.out]; omega)
      have fz := rZ.frozen 16
      obtain ⟨x, hxe⟩ : ∃ x, x = v / 256 ^ 16 % 256 := ⟨_, rfl⟩
      have hx8 : x < 256 := by rw [hxe]; exact Nat.mod_lt _ (by decide)
      rw [← hxe] at cx
      generalize gn zs 16 = y0 at cz
      have E1 : (x : Int) % 4 = ((x % 4 : Nat) : Int) := by omega
      have q0 := rZ.set 16 (.int .u64 ((x % 4 : Nat) : Int))
      rw [ns_set] at q0
      have HE2 : Hid (∀ i, gn (zs.set 16 (x % 4)) i = loD v i) := show ∀ i, gn (zs.set 16 (x % 4)) i = loD v i from fun i => by
        rw [gn_set, HL.out, HE.out i, hxe]
        unfold loD
        by_cases h6 : 16 = i ∧ i < 34
        · rw [if_pos h6, if_neg (by omega), if_pos (by omega)]
        · rw [if_neg h6]
          by_cases h2 : i < 16
          · rw [if_pos (by omega), if_pos h2]
          · rw [if_neg (by omega), if_neg h2, if_neg (by omega)]
      have HL2 : Hid ((zs.set 16 (x % 4)).length = 34) := show _ = _ by rw [List.length_set]; exact HL.out
      have b7 := hbel.setCell (p := ⟨w.heap.size, 16, none⟩) (Nat.le_refl _) (.int .u64 ((x % 4 : Nat) : Int))
      have E1v := veil E1
      clear hxe HE E1
      go_wp2
      rw [E1v.out]
      generalize wr.setCell ⟨w.heap.size, 16, none⟩ (.int .u64 ((x % 4 : Nat) : Int)) = W7 at *
      generalize zs.set 16 (x % 4) = ls at *
      go_loopw [5] (fun iv wr => ∃ (k : Nat) (ys : List Nat), k ≤ 18 ∧ iv = .int .i64 ((16 + k : Nat) : Int) ∧ Hid (ys.length = 34) ∧ Hid (∀ i, gn ys i = loD v i + if i < k then 5 * hiD v i else 0) ∧ Row wr w.heap.size 23 (ns ys) ∧ Below w.heap.size w wr)
        (fun iv _ => 34 - (intOf iv).toNat)
      case atStart => exact ⟨0, ls, by omega, rfl, HL2, fun i => by rw [if_neg (by omega), Nat.add_zero, HE2.out], q0, b7⟩
      case round =>
        clear q0 b7 HL2 HE2 rZ hbel HL hdk cz cx fz
        obtain ⟨k, ys, hk, rfl, HL, HE, rZ, hbel⟩ := hrel
        by_cases hlt : k < 18
        · have hdk : decide (((16 + k : Nat) : Int) < 34) = true := by simp; omega
          have cx := (HA.out.below hbel).cell (16 + k) (by omega)
          rw [dig_get _ _ _ (by omega)] at cx
          have cz := rZ.cellN (j := k) (by rw [HL.out]; omega)
          have fz := rZ.frozen k
          rw [HE.out k, if_neg (by omega), Nat.add_zero] at cz
          obtain ⟨x, hxe⟩ : ∃ x, x = v / 256 ^ (16 + k) % 256 := ⟨_, rfl⟩
          have hx8 : x < 256 := by rw [hxe]; exact Nat.mod_lt _ (by decide)
          rw [← hxe] at cx
          obtain ⟨y, hye⟩ : ∃ y, y = loD v k := ⟨_, rfl⟩
          have hy8 : y ≤ 255 := by rw [hye]; exact loD_le v k
          rw [← hye] at cz
          have HDG : Hid (x / 4 + (if 16 + k + 1 < 34 then v / 256 ^ (16 + k + 1) % 256 % 4 * 64 else 0) = hiD v k) := show _ = _ by rw [hxe]; exact high_digit v k HV.out hlt
          have hh8 := hiD_le v k
          generalize hhd : hiD v k = hd at *
          have HHD := veil hhd
          have HYE := veil hye
          clear hxe hye hhd
          by_cases h17 : k < 17
          · have cy := (HA.out.below hbel).cell (16 + k + 1) (by omega)
            rw [dig_get _ _ _ (by omega)] at cy
            rw [if_pos (by omega)] at HDG
            generalize v / 256 ^ (16 + k + 1) % 256 = y2 at *
            have hd4 : decide ((16 : Int) + (k : Int) + 1 < 34) = true := by simp; omega
            have HW : Hid ((y : Int) + 5 * ((x : Int) / 4 + (y2 : Int) % 4 * 64) = ((y + 5 * hd : Nat) : Int)) := show _ = _ by
              have := HDG.out
              omega
            go_wp2
            go_roundw
            case rel =>
              rw [HW.out]
              have qZ := rZ.set k (.int .u64 ((y + 5 * hd : Nat) : Int))
              rw [ns_set] at qZ
              refine ⟨k + 1, _, by omega, by go_num, ?_, ?_, qZ, hbel.setCell (p := ⟨w.heap.size, k, none⟩) (Nat.le_refl _) _⟩
              · show List.length _ = 34
                rw [List.length_set]; exact HL.out
              · intro i
                rw [gn_set, HE.out i, HL.out]
                by_cases hi : k = i ∧ i < 34
                · rw [if_pos hi, if_pos (by omega), ← hi.1, HYE.out, HHD.out]
                · rw [if_neg hi]
                  by_cases h2 : i < k
                  · rw [if_pos h2, if_pos (by omega)]
                  · rw [if_neg h2, if_neg (by omega)]
            case measure => simp [intOf]; omega
          · rw [if_neg (by omega), Nat.add_zero] at HDG
            have hd4 : decide ((16 : Int) + (k : Int) + 1 < 34) = false := by simp; omega
            have HW : Hid ((y : Int) + 5 * ((x : Int) / 4) = ((y + 5 * hd : Nat) : Int)) := show _ = _ by
              have := HDG.out
              omega
            go_wp2
            go_roundw
            case rel =>
              rw [HW.out]
              have qZ := rZ.set k (.int .u64 ((y + 5 * hd : Nat) : Int))
              rw [ns_set] at qZ
              refine ⟨k + 1, _, by omega, by go_num, ?_, ?_, qZ, hbel.setCell (p := ⟨w.heap.size, k, none⟩) (Nat.le_refl _) _⟩
              · show List.length _ = 34
                rw [List.length_set]; exact HL.out
              · intro i
                rw [gn_set, HE.out i, HL.out]
                by_cases hi : k = i ∧ i < 34
                · rw [if_pos hi, if_pos (by omega), ← hi.1, HYE.out, HHD.out]
                · rw [if_neg hi]
                  by_cases h2 : i < k
                  · rw [if_pos h2, if_pos (by omega)]
                  · rw [if_neg h2, if_neg (by omega)]
            case measure => simp [intOf]; omega
        · have hdk : decide (((16 + k : Nat) : Int) < 34) = false := by simp; omega
          rw [show k = 18 by omega] at HE
          have HNV : Hid (nV ys = foldN v) := show _ = _ from nV_fold v HV.out ys HL.out HE.out
          have HC : Hid (∀ i, gn ys i ≤ 1152921504606846976) := show ∀ i, gn ys i ≤ 1152921504606846976 from fun i => by
            rw [HE.out i]
            have h1 := loD_le v i
            have h2 := hiD_le v i
            split <;> omega
          have HNO := veil (NOk.of_row rZ HL.out)
          clear HE
          go_wp2_with fail
          refine (refCarried_any w.heap.size 34 ys wr HNO.out HC.out).mono ?_
          rintro e8 w8 ⟨v8', rfl, own8, hb8⟩
          have own9 := own_low own8 hbel.size
          rw [HNV.out] at own9
          go_wp2
          go_ret
          exact ⟨_, rfl, own9, hbel.trans (hb8.mono hbel.size)⟩
end Go.Proofs.YtbheoldakmcppaaGreatDoor

/-! What mailcoachref05.number and mailcoachref05.R answer. -/
namespace Go.Proofs.YtbheoldakmcppaaGreatDoor
open Go Go.RowKit

def z17 : List Nat := List.replicate 17 0
theorem gn_z17 (i : Nat) : gn z17 i = 0 := by
  unfold gn z17
  rw [List.getElem?_replicate]
  split <;> rfl
theorem nK_leK (b : List By) (zs : List Nat) (k : Nat) (h : ∀ i, i < k → gn zs i = (gb b i).toNat) : nK zs k = leK b k := by
  induction k with
  | zero => rfl
  | succ k ih =>
    rw [show nK zs (k + 1) = nK zs k + gn zs k * 256 ^ k from rfl, ih (fun i hi => h i (by omega)), h k (by omega)]
    rfl
/-- A list of places is that of its number. -/
theorem dig_of (zs : List Nat) (n : Nat) (hl : zs.length = n) (hb : ∀ i, gn zs i ≤ 255) : zs = dig (nV zs) n := by
  have key : ∀ k j, j < k → nK zs k / 256 ^ j % 256 = gn zs j := by
    intro k
    induction k with
    | zero => intro j h; omega
    | succ k ih =>
      intro j h
      rw [show nK zs (k + 1) = nK zs k + gn zs k * 256 ^ k from rfl]
      by_cases hj : j = k
      · subst hj
        have hlt : nK zs j < 256 ^ j := by
          have : ∀ m, nK zs m < 256 ^ m := by
            intro m
            induction m with
            | zero => simp [nK]
            | succ m ih2 =>
              rw [show nK zs (m + 1) = nK zs m + gn zs m * 256 ^ m from rfl, Nat.pow_succ]
              have h1 : gn zs m * 256 ^ m ≤ 255 * 256 ^ m := Nat.mul_le_mul_right _ (hb m)
              omega
          exact this j
        rw [Nat.mul_comm, Nat.add_mul_div_left _ _ (Nat.pow_pos (by decide)), Nat.div_eq_of_lt hlt, Nat.zero_add]
        exact Nat.mod_eq_of_lt (by have := hb j; omega)
      · rw [dig_stable _ _ (show j < k by omega)]
        exact ih j (by omega)
  subst hl
  apply List.ext_getElem (by rw [dig_length])
  intro i h1 h2
  have e := key zs.length i h1
  have e2 := dig_get (nV zs) zs.length i h1
  rw [show nV zs / 256 ^ i % 256 = gn zs i from e] at e2
  unfold gn at e2
  rw [List.getElem?_eq_getElem h1, List.getElem?_eq_getElem h2] at e2
  exact e2.symm

set_option maxRecDepth 20000 in
set_option maxHeartbeats 2000000 in
theorem refNumber_any (q : SL) (one : Bool) (w : World) (hq : q.Ok w) (hl : q.len ≤ 16) :
    Calls Tryz.prog 159 #[.slice q.a q.len q.cap, .bool one] w fun e w' => e = .returned (.slice (some ⟨w.heap.size, 0, none⟩) 17 17) ∧ Row w' w.heap.size 23 (ns (dig (leN q.b + if one then 256 ^ q.len else 0) 17)) ∧ Below w.heap.size w w' := by
  obtain ⟨i0, hi, hz0, hz1, hz2⟩ := info_parts (P := Tryz.prog) (e := 23) (z := .int .u64 0) (size := 1) (bytes := 8) (by kernel_rfl)
  have HQ := veil hq
  clear hq
  go_enter Tryz.func159, Tryz.ntmps159
  go_wp2_with (with_reducible (show wpList _ _ _ (⟨_, Op.makeSlice _ _ _, _, _, _, _⟩ :: _) _ _)
               refine wpList_make_full w rfl _ _ 96 rfl w.heap.size 23 i0 (.int .u64 0) 1 Tryz.underlying96 hi hz0 hz1 .i64 .i64 17 17 17 rfl rfl rfl rfl (by rw [hz2]; decide) (by unfold maxLen; decide) (Nat.le_refl _) ?_
               intro w6 own6 grow6)
  rw [made_vn] at own6
  have r6 : Row w6 w.heap.size 23 (ns z17) := own_row own6
  have b6 : Below w.heap.size w w6 := (Below.refl _ w).grown grow6 (Nat.le_refl _) (fun q e => by cases e)
  clear own6 grow6
  go_loopw [6] (fun iv wr => ∃ (k : Nat) (zs : List Nat), k ≤ q.len ∧ iv = .int .i64 k ∧ Hid (zs.length = 17) ∧ Hid (∀ i, gn zs i = if i < k then (gb q.b i).toNat else 0) ∧ Row wr w.heap.size 23 (ns zs) ∧ Below w.heap.size w wr)
    (fun iv _ => q.len - (intOf iv).toNat)
  case atStart => exact ⟨0, z17, by omega, rfl, rfl, fun i => by rw [if_neg (by omega), gn_z17], r6, b6⟩
  case round =>
    clear r6 b6
    obtain ⟨k, zs, hk, rfl, HL, HE, rZ, hbel⟩ := hrel
    by_cases hlt : k < q.len
    · have hdk : decide ((k : Int) < (q.len : Int)) = true := by simp; omega
      have hqr := HQ.out.below hbel
      have e := hqr.at_ (by omega)
      have cx := hqr.cell k hlt
      have cz := rZ.cellN (j := k) (by rw [HL.out]; omega)
      have fz := rZ.frozen k
      generalize gn zs k = y0 at cz
      obtain ⟨x, hxe⟩ : ∃ x, x = (gb q.b k).toNat := ⟨_, rfl⟩
      have hx8 : x < 256 := by rw [hxe]; exact (gb q.b k).isLt
      rw [show v8 (gb q.b k) = (x : Int) by rw [hxe]; rfl] at cx
      have HX := veil hxe
      have hw8 : IntKind.u64.wrap (x : Int) = (x : Int) := by rw [IntKind.wrap_u64]; omega
      have hp : (0 : Int) ≤ (k : Int) ∧ (k : Int) < (q.len : Int) := by omega
      have hp2 : (0 : Int) ≤ (k : Int) ∧ (k : Int) < 17 := by omega
      clear hxe hqr
      rw [e]
      go_wp2
      go_roundw
      case rel =>
        have qZ := rZ.set k (.int .u64 (x : Int))
        rw [ns_set] at qZ
        refine ⟨k + 1, _, by omega, by go_num, ?_, ?_, qZ, hbel.setCell (p := ⟨w.heap.size, k, none⟩) (Nat.le_refl _) _⟩
        · show List.length _ = 17
          rw [List.length_set]; exact HL.out
        · intro i
          rw [gn_set, HE.out i, HX.out, HL.out]
          by_cases hi : k = i ∧ i < 17
          · rw [if_pos hi, if_pos (by omega), hi.1]
          · rw [if_neg hi]
            by_cases h2 : i < k
            · rw [if_pos h2, if_pos (by omega)]
            · rw [if_neg h2, if_neg (by omega)]
      case measure => simp [intOf]; omega
    · have hdk : decide ((k : Int) < (q.len : Int)) = false := by simp; omega
      rw [show k = q.len by omega] at HE
      have HB : Hid (∀ i, gn zs i ≤ 255) := show ∀ i, gn zs i ≤ 255 from fun i => by
        rw [HE.out i]
        split
        · have := (gb q.b i).isLt; omega
        · omega
      have hqb := HQ.out.hb
      cases one with
      | false =>
        have HV : Hid (zs = dig (leN q.b) 17) := show _ = _ by
          have e := dig_of zs 17 HL.out HB.out
          have e2 : nV zs = leN q.b := by
            rw [← nK_out zs 17 (by rw [HL.out]; omega)]
            have e3 : nK zs 17 = nK zs q.len := by
              have : ∀ d, q.len + d ≤ 17 → nK zs (q.len + d) = nK zs q.len := by
                intro d
                induction d with
                | zero => intro _; rfl
                | succ d ih =>
                  intro h
                  rw [show q.len + (d + 1) = (q.len + d) + 1 by omega, show nK zs (q.len + d + 1) = nK zs (q.len + d) + gn zs (q.len + d) * 256 ^ (q.len + d) from rfl, ih (by omega), HE.out, if_neg (by omega), Nat.zero_mul, Nat.add_zero]
              have := this (17 - q.len) (by omega)
              rw [show q.len + (17 - q.len) = 17 by omega] at this
              exact this
            rw [e3]
            unfold leN
            rw [hqb]
            exact nK_leK q.b zs q.len (fun i hi => by rw [HE.out, if_pos hi])
          rw [e2] at e
          exact e
        go_wp2
        go_ret
        exact ⟨rfl, by rw [← HV.out]; exact rZ, hbel⟩
      | true =>
        have cz := rZ.cellN (j := q.len) (by rw [HL.out]; omega)
        have fz := rZ.frozen q.len
        generalize gn zs q.len = y0 at cz
        have hp2 : (0 : Int) ≤ (q.len : Int) ∧ (q.len : Int) < 17 := by omega
        have qZ := rZ.set q.len (.int .u64 ((1 : Nat) : Int))
        rw [ns_set] at qZ
        have HL2 : Hid ((zs.set q.len 1).length = 17) := show _ = _ by rw [List.length_set]; exact HL.out
        have HE2 : Hid (∀ i, gn (zs.set q.len 1) i = if i < q.len then (gb q.b i).toNat else if i = q.len then 1 else 0) := show ∀ i, gn (zs.set q.len 1) i = if i < q.len then (gb q.b i).toNat else if i = q.len then 1 else 0 from fun i => by
          rw [gn_set, HL.out, HE.out i]
          by_cases h1 : q.len = i ∧ i < 17
          · rw [if_pos h1, if_neg (by omega), if_pos (by omega)]
          · rw [if_neg h1]
            by_cases h2 : i < q.len
            · rw [if_pos h2, if_pos h2]
            · rw [if_neg h2, if_neg h2, if_neg (by omega)]
        have HV : Hid (zs.set q.len 1 = dig (leN q.b + 256 ^ q.len) 17) := show _ = _ by
          have e := dig_of (zs.set q.len 1) 17 HL2.out (fun i => by
            rw [HE2.out i]
            split
            · have := (gb q.b i).isLt; omega
            · split <;> omega)
          have e2 : nV (zs.set q.len 1) = leN q.b + 256 ^ q.len := by
            rw [← nK_out (zs.set q.len 1) 17 (by rw [HL2.out]; omega)]
            have : ∀ d, q.len + 1 + d ≤ 17 → nK (zs.set q.len 1) (q.len + 1 + d) = leN q.b + 256 ^ q.len := by
              intro d
              induction d with
              | zero =>
                intro _
                rw [show q.len + 1 + 0 = q.len + 1 from rfl, show nK (zs.set q.len 1) (q.len + 1) = nK (zs.set q.len 1) q.len + gn (zs.set q.len 1) q.len * 256 ^ q.len from rfl, HE2.out q.len, if_neg (by omega), if_pos rfl, Nat.one_mul, nK_leK q.b (zs.set q.len 1) q.len (fun i hi => by rw [HE2.out, if_pos hi])]
                unfold leN
                rw [hqb]
              | succ d ih =>
                intro h
                rw [show q.len + 1 + (d + 1) = (q.len + 1 + d) + 1 by omega, show nK (zs.set q.len 1) (q.len + 1 + d + 1) = nK (zs.set q.len 1) (q.len + 1 + d) + gn (zs.set q.len 1) (q.len + 1 + d) * 256 ^ (q.len + 1 + d) from rfl, ih (by omega), HE2.out, if_neg (by omega), if_neg (by omega), Nat.zero_mul, Nat.add_zero]
            have := this (16 - q.len) (by omega)
            rw [show q.len + 1 + (16 - q.len) = 17 by omega] at this
            exact this
          rw [e2] at e
          exact e
        have kb := hbel.setCell (p := ⟨w.heap.size, q.len, none⟩) (Nat.le_refl _) (.int .u64 ((1 : Nat) : Int))
        clear HE HE2 HB
        go_wp2
        go_ret
        exact ⟨rfl, by rw [← HV.out]; exact qZ, kb⟩
end Go.Proofs.YtbheoldakmcppaaGreatDoor
