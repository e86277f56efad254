/-
  What mailcoachref05.R answers.
-/
import Derived.Test.YtholddbmnlnkkaaPlRefN
namespace Go.Proofs.Ytholddbmnlnkkaa
open Go Go.RowKit

theorem and15 (b : By) : (b &&& 15).toNat = b.toNat % 16 := by
  rw [BitVec.toNat_and]
  exact Nat.and_two_pow_sub_one_eq_mod b.toNat 4
theorem and252 (b : By) : (b &&& 252).toNat = b.toNat - b.toNat % 4 := by
  have h : ∀ x : Fin 256, x.1 &&& 252 = x.1 - x.1 % 4 := by decide +kernel
  rw [BitVec.toNat_and]
  exact h ⟨b.toNat, b.isLt⟩
theorem half_get (key : List By) (hk : key.length = 32) (i : Nat) : gn (dig (leN (key.take 16)) 17) i = if i < 16 then (gb key i).toNat else 0 := by
  have e : leN (key.take 16) = leK (key.take 16) 16 := by unfold leN; rw [List.length_take, hk]; rfl
  by_cases h : i < 16
  · rw [if_pos h, dig_get _ _ _ (by omega), e, leK_div _ _ _ h, gb_take _ _ _ h]
  · rw [if_neg h]
    by_cases h2 : i < 17
    · rw [show i = 16 by omega, dig_get _ _ _ (by omega), e, Nat.div_eq_of_lt (leK_lt _ _)]
    · rw [gn_out (by rw [dig_length]; omega)]
theorem dig_r (key : List By) (zs : List Nat) (hl : zs.length = 17) (h : ∀ i, gn zs i = if i < 16 then (clB key i).toNat else 0) : zs = dig (rN key) 17 := by
  have e := dig_of zs 17 hl (fun i => by
    rw [h i]
    split
    · have := (clB key i).isLt; omega
    · omega)
  have e2 : nV zs = rN key := by
    rw [← nK_out zs 17 (by omega), show nK zs 17 = nK zs 16 + gn zs 16 * 256 ^ 16 from rfl, h 16, if_neg (by omega), Nat.zero_mul, Nat.add_zero]
    exact nK_leK (clL key) zs 16 (fun i hi => by rw [h i, if_pos hi, clL_get _ _ hi])
  rw [e2] at e
  exact e

set_option maxRecDepth 20000 in
set_option maxHeartbeats 2000000 in
theorem refR_any (key : List By) (hk : key.length = 32) (w : World) :
    Calls Try.prog 22 #[.agg (bs key)] w fun e w' => e = .returned (.slice (some ⟨w.heap.size + 1, 0, none⟩) 17 17) ∧ Row w' (w.heap.size + 1) 37 (ns (dig (rN key) 17)) ∧ Below w.heap.size w w' := by
  have HK := veil hk
  have hsl := slice_ok (Row.new w 22 (bs key)) 0 16 32 (by rw [hk]; omega) (by omega)
  rw [List.drop_zero] at hsl
  have HSL := veil hsl
  have HH := veil (half_get key hk)
  clear hk hsl
  go_enter Try.func22, Try.ntmps22
  go_wp2_with fail
  refine (refNumber_any _ false _ HSL.out (by show 16 ≤ 16; omega)).mono ?_
  rintro e1 w1 ⟨rfl, r1, hb1⟩
  have hz : dig (leN (SL.mk (some ⟨w.heap.size, 0, none⟩) 16 32 w.heap.size 0 (key.take 16)).b + if false = true then 256 ^ (SL.mk (some ⟨w.heap.size, 0, none⟩) 16 32 w.heap.size 0 (key.take 16)).len else 0) 17 = dig (leN (key.take 16)) 17 := by rw [if_neg (by simp), Nat.add_zero]
  rw [hz] at r1
  have b1 : Below w.heap.size w w1 := ((Below.refl _ w).alloc (Nat.le_refl _) _).trans (hb1.mono (by simp))
  have r1' : Row w1 (w.heap.size + 1) 37 (ns (dig (leN (key.take 16)) 17)) := by
    have := r1
    rw [World.size_alloc] at this
    exact this
  clear r1 hb1 hz HSL
  simp only [World.size_alloc]
  go_wp2_with fail
  go_loopw [4] (fun iv wr => ∃ (i : Nat) (zs : List Nat), i ≤ 19 ∧ i % 4 = 3 ∧ iv = .int .i64 i ∧ Hid (zs.length = 17) ∧ Hid (∀ j, gn zs j = if j < 16 then (if j % 4 = 3 ∧ j < i then (gb key j).toNat % 16 else (gb key j).toNat) else 0) ∧ Row wr (w.heap.size + 1) 37 (ns zs) ∧ Below w.heap.size w wr)
    (fun iv _ => 19 - (intOf iv).toNat)
  case atStart =>
    refine ⟨3, _, by omega, rfl, rfl, dig_length _ _, fun j => ?_, r1', b1⟩
    rw [HH.out j]
    split
    · rw [if_neg (by omega)]
    · rfl
  case round =>
    clear r1' b1
    obtain ⟨i, zs, hi, hi4, rfl, HL, HE, rZ, hbel⟩ := hrel
    by_cases h16 : i < 16
    · have hdk : decide ((i : Int) < 16) = true := by simp; omega
      have cz := rZ.cellN (j := i) (by rw [HL.out]; omega)
      have fz := rZ.frozen i
      rw [HE.out i, if_pos h16, if_neg (by omega)] at cz
      obtain ⟨x, hxe⟩ : ∃ x, x = (gb key i).toNat := ⟨_, rfl⟩
      have hx8 : x < 256 := by rw [hxe]; exact (gb key i).isLt
      rw [← hxe] at cz
      have HX := veil hxe
      have hp : (0 : Int) ≤ (i : Int) ∧ (i : Int) < 17 := by omega
      have E1 : Hid ((x : Int) % 16 = ((x % 16 : Nat) : Int)) := show _ = _ by omega
      clear hxe
      go_wp2
      go_roundw
      case rel =>
        rw [E1.out]
        have qZ := rZ.set i (.int .u64 ((x % 16 : Nat) : Int))
        rw [ns_set] at qZ
        refine ⟨i + 4, _, by omega, by omega, by go_num, ?_, ?_, qZ, hbel.setCell (p := ⟨w.heap.size + 1, i, none⟩) (by show w.heap.size ≤ w.heap.size + 1; omega) _⟩
        · show List.length _ = 17
          rw [List.length_set]; exact HL.out
        · intro j
          rw [gn_set, HL.out, HE.out j, HX.out]
          by_cases hj : i = j ∧ j < 17
          · rw [if_pos hj, if_pos (by omega), if_pos (by omega), hj.1]
          · rw [if_neg hj]
            by_cases h6 : j < 16
            · rw [if_pos h6, if_pos h6]
              by_cases h2 : j % 4 = 3 ∧ j < i
              · rw [if_pos h2, if_pos (by omega)]
              · rw [if_neg h2, if_neg (by omega)]
            · rw [if_neg h6, if_neg h6]
      case measure => simp [intOf]; omega
    · have hdk : decide ((i : Int) < 16) = false := by simp; omega
      rw [show i = 19 by omega] at HE
      go_wp2
      go_loopw [5] (fun iv wr => ∃ (i : Nat) (zs : List Nat), i ≤ 16 ∧ i % 4 = 0 ∧ 4 ≤ i ∧ iv = .int .i64 i ∧ Hid (zs.length = 17) ∧ Hid (∀ j, gn zs j = if j < 16 then (if j % 4 = 3 then (gb key j).toNat % 16 else if (j % 4 = 0 ∧ 0 < j) ∧ j < i then (gb key j).toNat - (gb key j).toNat % 4 else (gb key j).toNat) else 0) ∧ Row wr (w.heap.size + 1) 37 (ns zs) ∧ Below w.heap.size w wr)
        (fun iv _ => 16 - (intOf iv).toNat)
      case atStart =>
        refine ⟨4, zs, by omega, rfl, by omega, rfl, HL, fun j => ?_, rZ, hbel⟩
        rw [HE.out j]
        by_cases h6 : j < 16
        · rw [if_pos h6, if_pos h6]
          by_cases h3 : j % 4 = 3
          · rw [if_pos h3, if_pos ⟨h3, by omega⟩]
          · rw [if_neg h3, if_neg (fun e => h3 e.1), if_neg (by omega)]
        · rw [if_neg h6, if_neg h6]
      case round =>
        clear HL HE rZ hbel hdk
        obtain ⟨i, zs, hi, hi4, hi0, rfl, HL, HE, rZ, hbel⟩ := hrel
        by_cases h16 : i < 16
        · have hdk : decide ((i : Int) < 16) = true := by simp; omega
          have cz := rZ.cellN (j := i) (by rw [HL.out]; omega)
          have fz := rZ.frozen i
          rw [HE.out i, if_pos h16, if_neg (by omega), if_neg (by omega)] at cz
          obtain ⟨x, hxe⟩ : ∃ x, x = (gb key i).toNat := ⟨_, rfl⟩
          have hx8 : x < 256 := by rw [hxe]; exact (gb key i).isLt
          rw [← hxe] at cz
          have HX := veil hxe
          have hp : (0 : Int) ≤ (i : Int) ∧ (i : Int) < 17 := by omega
          have E1 : Hid ((x : Int) - (x : Int) % 4 = ((x - x % 4 : Nat) : Int)) := show _ = _ by omega
          clear hxe
          go_wp2
          go_region
          go_wp2
          go_roundw
          case rel =>
            rw [E1.out]
            have qZ := rZ.set i (.int .u64 ((x - x % 4 : Nat) : Int))
            rw [ns_set] at qZ
            refine ⟨i + 4, _, by omega, by omega, by omega, by go_num, ?_, ?_, qZ, Below.drew (hbel.setCell (p := ⟨w.heap.size + 1, i, none⟩) (by show w.heap.size ≤ w.heap.size + 1; omega) _)⟩
            · show List.length _ = 17
              rw [List.length_set]; exact HL.out
            · intro j
              rw [gn_set, HL.out, HE.out j, HX.out]
              by_cases hj : i = j ∧ j < 17
              · rw [if_pos hj, if_pos (by omega), if_neg (by omega), if_pos (by omega), hj.1]
              · rw [if_neg hj]
                by_cases h6 : j < 16
                · rw [if_pos h6, if_pos h6]
                  by_cases h3 : j % 4 = 3
                  · rw [if_pos h3, if_pos h3]
                  · rw [if_neg h3, if_neg h3]
                    by_cases h2 : (j % 4 = 0 ∧ 0 < j) ∧ j < i
                    · rw [if_pos h2, if_pos (by omega)]
                    · rw [if_neg h2, if_neg (by omega)]
                · rw [if_neg h6, if_neg h6]
          case measure => simp [intOf]; omega
        · have hdk : decide ((i : Int) < 16) = false := by simp; omega
          rw [show i = 16 by omega] at HE
          have HR : Hid (zs = dig (rN key) 17) := show _ = _ from dig_r key zs HL.out (fun j => by
            rw [HE.out j]
            by_cases h6 : j < 16
            · rw [if_pos h6, if_pos h6]
              unfold clB
              by_cases h3 : j % 4 = 3
              · rw [if_pos h3, if_pos h3, and15]
              · rw [if_neg h3, if_neg h3]
                by_cases h2 : j % 4 = 0 ∧ 0 < j
                · rw [if_pos ⟨h2, h6⟩, if_pos h2, and252]
                · rw [if_neg (fun e => h2 e.1), if_neg h2]
            · rw [if_neg h6, if_neg h6])
          clear HE
          go_wp2
          go_ret
          exact ⟨rfl, by rw [← HR.out]; exact rZ, hbel⟩
end Go.Proofs.Ytholddbmnlnkkaa
